/- The document's All; same, long. -/
import Derived.Test.YtpigepkkiceihaaDoorFrAll
namespace Go.Proofs.YtpigepkkiceihaaDoor
open Go.RowKit
set_option linter.unusedVariables false

theorem reads1_is (s : List UInt8) (a : Int) : Reads1 s a = .tuple #[.string ⟨(rdT s a).toArray⟩, .int .i64 (rdN s a), .int .i64 (rdE s a : Nat)] := rfl
theorem rd_ok {s : List UInt8} {a : Nat} {acc : List (List UInt8)} (h : Way s a acc) (h0 : rdE s a = 0) :
    ∃ a2 : Nat, rdN s a = (a2 : Int) ∧ Way s a2 (acc ++ [rdT s a]) ∧ a < a2 ∧ (rdT s a).length ≤ 65536 := by
  have hr : 0 ≤ (a : Int) ∧ (a : Int) ≤ s.length := by have := h.1; omega
  rcases hfi : Fr.first (s.drop a) with ⟨e, t⟩
  have he : rdE s a = e := by unfold rdE; rw [if_pos hr, Int.toNat_natCast, hfi]
  have ht : rdT s a = t := by unfold rdT; rw [if_pos hr, Int.toNat_natCast, hfi]
  rw [h0] at he
  subst he
  obtain ⟨h1, h2, h3⟩ := way_next h hfi
  refine ⟨a + (t.length + 7), ?_, by rw [ht]; exact h1, h2, by rw [ht]; exact h3⟩
  unfold rdN
  rw [if_pos h0, ht]
  omega
theorem rd_bad {s : List UInt8} {a : Nat} {acc : List (List UInt8)} (h : Way s a acc) (h0 : rdE s a ≠ 0) : Fr.all s = acc ∧ (a : Int) = (Fr.place (Fr.all s) : Nat) := by
  have hr : 0 ≤ (a : Int) ∧ (a : Int) ≤ s.length := by have := h.1; omega
  rcases hfi : Fr.first (s.drop a) with ⟨e, t⟩
  have he : rdE s a = e := by unfold rdE; rw [if_pos hr, Int.toNat_natCast, hfi]
  rw [he] at h0
  obtain ⟨h1, h2, _⟩ := way_end h hfi h0
  exact ⟨h1, h2⟩

set_option maxHeartbeats 2000000 in
set_option maxRecDepth 100000 in
theorem rall_any (s : List UInt8) (w : World) (hs : s.length ≤ 1000000000) :
    Calls Tryd.prog 18 #[.string ⟨s.toArray⟩] w fun e w' => ∃ v, e = .returned (.tuple #[v, .int .i64 (Fr.place (Fr.all s) : Nat)]) ∧ OwnS w' w.heap.size v (Fr.all s) ∧ Below w.heap.size w w' := by
  have FI := Lib.hid (fun (a : Nat) W => rfirst_any s a W (by omega))
  obtain ⟨i0, hi, hz0, hz1, hz2⟩ := info_parts str_info
  have HI := Lib.hid (And.intro hi (And.intro hz0 (And.intro hz1 hz2)))
  clear hi hz0 hz1 hz2
  have F0 := Lib.hid (FI.out 0 w)
  rw [reads1_is] at F0
  go_enter Tryd.func18, Tryd.ntmps18
  go_wp2_with fail
  refine F0.out.mono ?_
  rintro e w1 ⟨rfl, b1⟩
  clear F0
  have B1 := Lib.hid b1
  clear b1
  go_wp2
  go_loopw [4, 5, 6, 7, 8] (fun v i t n e wr => ∃ (a : Nat) (acc : List (List UInt8)), i = .int .i64 a ∧ t = .string ⟨(rdT s a).toArray⟩ ∧ n = .int .i64 (rdN s a) ∧ e = .int .i64 (rdE s a : Nat) ∧ Hid (Way s a acc) ∧ Hid (OwnS wr w.heap.size v acc) ∧ Hid (Below w.heap.size w wr)) (fun _ i _ _ _ _ => s.length - (intOf i).toNat)
  case atStart => exact ⟨0, [], rfl, rfl, rfl, rfl, Lib.hid (way_start s), Lib.hid (owns_nil _ _), B1⟩
  case round =>
    obtain ⟨a, acc, rfl, rfl, rfl, rfl, way, hown, hbel⟩ := hrel
    clear B1
    have ha := way.out.1
    have hsz := hbel.out.size
    have hfew := way_few way.out
    by_cases he : rdE s a = 0
    · obtain ⟨a2, hn, wn, hlt, htl⟩ := rd_ok way.out he
      have WN := Lib.hid wn
      have hal := wn.1
      have F := Lib.hid (fun W => FI.out a2 W)
      simp only [reads1_is] at F
      rw [he, hn]
      generalize rdT s a = t at *
      clear way wn he hn FI
      go_wp2_with (at_builtin; go_loud (refine wpList_append_own _ rfl _ _ 22 rfl w.heap.size 9 i0 (.string ⟨#[]⟩) 1 16 strs_und HI.out.1 HI.out.2.1 HI.out.2.2.1 HI.out.2.2.2 rfl (by decide) _ _ _ rfl (World.ownsRow.alloc hown.out _) ⟨wr.heap.size, 0, none⟩ 1 1 [.string ⟨t.toArray⟩] rfl rfl (by intro j u hj; match j, hj with | 0, hj => simp at hj; subst hj; simp [Addr.add]) (by intro u hu; simp at hu; subst hu; rfl) (by unfold maxLen; omega) (by omega) (by rw [size1]; omega) ?_; intro v' w2 hown' hgrow _))
      have R' := pushs_step hown.out hbel.out hsz hown' hgrow
      have R := Lib.hid R'
      clear R' hown' hgrow hown hbel hsz
      have hsz := R.out.2.size
      go_wp2_with fail
      refine (F.out _).mono ?_
      rintro e w3 ⟨rfl, b3⟩
      have HO := Lib.hid (owns_below R.out.1 b3)
      have HB := Lib.hid (R.out.2.trans (b3.mono hsz))
      clear R b3 F
      go_wp2
      go_roundw
      case rel => exact ⟨a2, _, rfl, rfl, rfl, rfl, WN, HO, HB⟩
      case measure => simp [intOf]; omega
    · obtain ⟨h1, h2⟩ := rd_bad way.out he
      have hne : ((rdE s a : Int) == 0) = false := by simp; omega
      have H1 := Lib.hid h1
      have H2 := Lib.hid h2
      generalize rdE s a = e at *
      generalize rdT s a = t at *
      generalize rdN s a = n at *
      clear way h1 h2 FI
      go_wp2
      go_ret2
      exact ⟨_, ret_pair rfl (by rw [← H2.out]; rfl), by rw [H1.out]; exact hown.out, hbel.out⟩

set_option maxHeartbeats 1000000 in
set_option maxRecDepth 100000 in
theorem same_any (A : Option Addr) (cap : Nat) (A2 : Option Addr) (cap2 : Nat) (l : List (List UInt8)) (w : World) (B B2 : Nat) (hl : l.length ≤ 140737488351232) (hr : Reads w B A (strings l)) (hr2 : Reads w B2 A2 (strings l)) :
    Calls Tryd.prog 19 #[.slice A l.length cap, .slice A2 l.length cap2] w fun e w' => e = .returned (.bool true) ∧ Below w.heap.size w w' := by
  have hne : ((l.length : Int) != (l.length : Int)) = false := by simp
  have b0 := Lib.hid (Below.refl w.heap.size w)
  go_enter Tryd.func19, Tryd.ntmps19
  go_wp2
  go_loopw [5] (fun i wr => ∃ k : Nat, k ≤ l.length ∧ i = .int .i64 k ∧ Hid (Below w.heap.size w wr) ∧ Hid (Reads wr B A (strings l)) ∧ Hid (Reads wr B2 A2 (strings l))) (fun i _ => l.length - (intOf i).toNat)
  case atStart => exact ⟨0, Nat.zero_le _, rfl, b0, Lib.hid hr, Lib.hid hr2⟩
  case round =>
    obtain ⟨k, hk, rfl, hbel, r1, r2⟩ := hrel
    clear b0 hr hr2
    by_cases hlt : k < l.length
    · obtain ⟨x, hx⟩ : ∃ x, x = l[k] := ⟨_, rfl⟩
      obtain ⟨b, off, rfl, hbB, hc⟩ := r1.out.at_ (k := k) (by simpa [strings] using hlt)
      obtain ⟨b2, off2, rfl, hbB2, hc2⟩ := r2.out.at_ (k := k) (by simpa [strings] using hlt)
      have k1 : wr.cell? ⟨b, off + k, none⟩ = some (.string ⟨x.toArray⟩) := by rw [hc, hx]; simp [strings]
      have k2 : wr.cell? ⟨b2, off2 + k, none⟩ = some (.string ⟨x.toArray⟩) := by rw [hc2, hx]; simp [strings]
      have hlt' : (k : Int) < (l.length : Int) := by omega
      have hxx : (x == x) = true := by simp
      clear hx hc hc2
      go_wp2
      go_quiet (fail)
      have r1' := Lib.hid (show Reads (wr.drewN nq) B (some ⟨b, off, none⟩) (strings l) from r1.out)
      have r2' := Lib.hid (show Reads (wr.drewN nq) B2 (some ⟨b2, off2, none⟩) (strings l) from r2.out)
      have HB := Lib.hid (Below.dn' hbel.out nq)
      clear r1 r2 hbel
      go_wp2
      go_roundw
      case rel => exact ⟨k + 1, by omega, by go_num, HB, r1', r2'⟩
      case measure => simp [intOf]; omega
    · obtain rfl : k = l.length := by omega
      go_wp2
      go_ret
      exact ⟨rfl, hbel.out⟩
end Go.Proofs.YtpigepkkiceihaaDoor
