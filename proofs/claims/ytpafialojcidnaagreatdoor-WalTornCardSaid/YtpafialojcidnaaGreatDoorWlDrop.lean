/- wal's Drop. -/
import Derived.Test.YtpafialojcidnaaGreatDoorWlOpen
namespace Go.Proofs.YtpafialojcidnaaGreatDoor
open Go.RowKit Go.Maps Dk
open Wl (Lo)
set_option linter.unusedVariables false

namespace Wl
theorem firsts_at : ∀ (A : List (List Str)) (n j : Nat) (h : j < A.length), (firsts n A)[j]? = some (n + tot (A.take j))
  | [], _, _, h => by simp at h
  | Q :: A, n, 0, _ => by simp [firsts_cons, tot]
  | Q :: A, n, j + 1, h => by
    rw [firsts_cons, List.getElem?_cons_succ, firsts_at A _ j (by simpa using h), List.take_succ_cons, tot_cons, Nat.add_assoc]
theorem firsts_le {A : List (List Str)} {n j m : Nat} (h : (firsts n A)[j]? = some m) : m ≤ n + tot A := by
  have hj : j < A.length := by
    rw [← firsts_len n A]
    exact (List.getElem?_eq_some_iff.1 h).1
  rw [firsts_at A n j hj] at h
  cases h
  have : tot A = tot (A.take j) + tot (A.drop j) := by rw [← tot_append, List.take_append_drop]
  omega
theorem Lg.ns {K : St} {nm : Str} {n0 : Nat} {I : List (List Str)} {R : List Str} (h : Lg K nm n0 I R) : Ns nm K (firsts n0 (I ++ [R])) := by
  refine ⟨?_, fun n hn => ?_⟩
  · rw [h.vw.names, vv, firsts, List.map_map, List.map_map]; rfl
  · obtain ⟨j, hj⟩ := List.getElem?_of_mem hn
    have := firsts_le hj
    rw [tot_snoc] at this
    have := h.top
    omega
theorem drop_step {I : List (List Str)} {k : Nat} (h : k < I.length) : I.drop k = I[k] :: I.drop (k + 1) ∧ tot (I.take (k + 1)) = tot (I.take k) + I[k].length := by
  refine ⟨List.drop_eq_getElem_cons h, ?_⟩
  rw [List.take_succ_eq_append_getElem h, tot_snoc]
end Wl

/-- so many segments were dropped -/
def Dropd (w W : World) (B d : Nat) (nm : Str) (n0 : Nat) (I : List (List Str)) (R : List Str) (upto : Int) (k : Nat) (K' : St) (w' : World) : Prop :=
  k ≤ I.length ∧ Wl.Lg K' nm (n0 + Wl.tot (I.take k)) (I.drop k) R ∧ (0 < k → ((n0 + Wl.tot (I.take k) : Nat) : Int) ≤ upto) ∧ (k < I.length → upto < ((n0 + Wl.tot (I.take (k + 1)) : Nat) : Int)) ∧ Wa w B d K' w' ∧ Kp isRef W w'
set_option maxHeartbeats 8000000 in
set_option maxRecDepth 100000 in
theorem drop_any {w W : World} {B b d : Nat} {g : Lo} {K : St} {n0 : Nat} {I : List (List Str)} {R : List Str} (h : Wa w B d K W) (hl : LogAt W B b d g) (L : Wl.Lg K g.nm n0 I R) (upto : Int) (hu : -9223372036854775808 ≤ upto ∧ upto ≤ 9223372036854775807) :
    Calls Tryz.prog 20 #[.pointer (some ⟨b, 0, none⟩), .int .i64 upto] W fun x w' => ∃ (k : Nat) (K' : St), x = .returned (.int .i64 (k : Int)) ∧ Dropd w W B d g.nm n0 I R upto k K' w' := by
  have hlt := hl.lt
  have hnm := L.nm16
  have htop := L.top
  have hI := L.few
  have S := Lib.hid (segments_any W hl h.dsk hnm L.ns)
  have FI := Lib.hid (fun (W1 : World) (K1 : St) (x : Wa w B d K1 W1) (y : Kp isRef W W1) (m : Nat) (hm : m ≤ 99999999) (p : Lat grows W1) => file_any p.W ((hl.kp y).below p.h) (x.tabs.below p.h x.size) (Nat.le_trans x.size p.h.size) hnm m hm)
  have K0 := Lib.hid (fun (W1 : World) (y : Kp isRef W W1) => (hl.kp y).disk)
  have HT := Lib.hid (fun (k : Nat) (hk : k ≤ I.length) => by
    have h1 := Wl.firsts_at (I ++ [R]) n0 k (by rw [List.length_append]; simp; omega)
    rw [List.take_append_of_le_length hk] at h1
    exact h1)
  have hlen : (Wl.firsts n0 (I ++ [R])).length = I.length + 1 := by rw [Wl.firsts_len, List.length_append]; rfl
  have HL := Lib.hid L
  have HLB := Lib.hid hl.box
  have H := Lib.hid h
  clear h hl L
  go_enter Tryz.func20, Tryz.ntmps20
  go_wp2_with fail
  refine S.out.mono ?_
  rintro e w1 ⟨v, rfl, hO, b1⟩
  obtain ⟨A, cap, rfl⟩ := own_len hO
  rw [nats_len, hlen]
  have HO := Lib.hid hO
  have W1 := Lib.hid (H.out.below b1)
  have KP1 : Hid (Kp isRef W w1) := Lib.hid (Kp.below b1)
  clear S hO b1
  go_wp2
  go_loopw [6] (fun i wr => ∃ (k : Nat) (K1 : St), k ≤ I.length ∧ i = .int .i64 k ∧ Hid (Wl.Lg K1 g.nm (n0 + Wl.tot (I.take k)) (I.drop k) R) ∧ Hid (0 < k → ((n0 + Wl.tot (I.take k) : Nat) : Int) ≤ upto) ∧ Hid (Wa w B d K1 wr) ∧ Hid (Kp isRef W wr) ∧ Hid (Kp isRef w1 wr)) (fun i _ => I.length - (intOf i).toNat)
  case atStart => exact ⟨0, K, Nat.zero_le _, rfl, by simpa [Wl.tot] using HL, Lib.hid (fun h => absurd h (by decide)), W1, KP1, Lib.hid (Kp.refl _ _)⟩
  case round =>
    obtain ⟨k, K1, hk, rfl, hL, hup, hW, hkp, hkp1⟩ := hrel
    have hR := Lib.hid (own_reads (own_kp HO.out (p := isRef) (fun _ => rfl) hkp1.out))
    by_cases hlt2 : k < I.length
    · have hs0 := HT.out k hk
      have hs1 := HT.out (k + 1) hlt2
      obtain ⟨hd, ht⟩ := Wl.drop_step hlt2
      obtain ⟨bk, off, rfl, hbB, hcell⟩ := hR.out.at_ (k := k) (by unfold ints nats; rw [List.length_map, List.length_map, hlen]; omega)
      obtain ⟨bk', off', hbk, hbB', hcell'⟩ := hR.out.at_ (k := k + 1) (by unfold ints nats; rw [List.length_map, List.length_map, hlen]; omega)
      obtain ⟨rfl, rfl⟩ : bk' = bk ∧ off' = off := by simpa [eq_comm] using hbk
      have hc0 : wr.cell? ⟨bk', off' + k, none⟩ = some (.int .i64 ((n0 + Wl.tot (I.take k) : Nat) : Int)) := by
        rw [hcell]
        have := (List.getElem?_eq_some_iff.1 hs0).2
        simp [ints, nats, this]
      have hc1 : wr.cell? ⟨bk', off' + (k + 1), none⟩ = some (.int .i64 ((n0 + Wl.tot (I.take (k + 1)) : Nat) : Int)) := by
        rw [hcell']
        have := (List.getElem?_eq_some_iff.1 hs1).2
        simp [ints, nats, this]
      have hm0 : n0 + Wl.tot (I.take k) ≤ 99999999 := by
        have : Wl.tot I = Wl.tot (I.take k) + Wl.tot (I.drop k) := by rw [← Wl.tot_append, List.take_append_drop]
        omega
      have hw : IntKind.i64.wrap ((k : Int) + 1) = ((k + 1 : Nat) : Int) := by rw [IntWalk.i64_in _ ⟨by omega, by omega⟩]; omega
      have hkl : ((k + 1 : Nat) : Int) < (I.length : Int) + 1 := by omega
      have hkl0 : (k : Int) < (I.length : Int) + 1 := by omega
      clear hcell hcell' hbk hs0 hs1
      by_cases hc : ((n0 + Wl.tot (I.take (k + 1)) : Nat) : Int) ≤ upto
      · obtain ⟨K2, e2, L2⟩ := hL.out.drop hd
        rw [Nat.add_assoc, ← ht] at L2
        have HL2 := Lib.hid L2
        have HU2 : Hid (0 < k + 1 → ((n0 + Wl.tot (I.take (k + 1)) : Nat) : Int) ≤ upto) := Lib.hid fun _ => hc
        have F := Lib.hid (FI.out wr K1 hW.out hkp.out _ hm0)
        have k0 := K0.out wr hkp.out
        have hltw : b < wr.heap.size := heap_lt (hkp.out b _ HLB.out rfl)
        have RM := Lib.hid (fun (W2 : World) (hb : Below wr.heap.size wr W2) => (at_remove (hW.out.below hb).at_ e2 (by rw [Wl.file_len]; omega)).mono (R' := fun e w' => e = .returned (.int .i64 0) ∧ Hid (Wa w B d K2 w' ∧ Kp isRef W w' ∧ Kp isRef w1 w')) fun e w' ⟨x1, x2⟩ => ⟨x1, Lib.hid ⟨(hW.out.below hb).via x2, (hkp.out.trans (Kp.below hb)).trans x2.out.2.2.kp, (hkp1.out.trans (Kp.below hb)).trans x2.out.2.2.kp⟩⟩)
        clear hL hup hW hkp hkp1 L2 e2 hd ht FI K0 HT
        generalize hmm0 : n0 + Wl.tot (I.take k) = m0 at *
        generalize Wl.file g.nm m0 = fl at *
        generalize hmm1 : ((n0 + Wl.tot (I.take (k + 1)) : Nat) : Int) = m1 at *
        generalize hk1 : k + 1 = k1 at *
        go_wp2_with fail
        refine Og.grow 10 (by kernel_rfl) (by kernel_rfl) fun hcc hf => ?_
        simp only [List.take_succ_cons, List.take_zero, List.drop_succ_cons, List.drop_zero]
        repeat (refine Og.det [] rfl (fun K hK => ?_); go_simp; first | (refine hK _ _ ?_; clear hK K) | (with_reducible refine ⟨_, fun p => Og.lays (F.out p), hK _ _ ?_⟩; clear hK K))
        refine Og.fin fun W' hW => ?_
        simp only [Og.opened_nil]
        clear hcc hf
        have RW := Lib.hid (RM.out _ hW)
        clear RM hW
        go_wp2_with (go_at_call 42; refine RW.out.mono ?_; rintro e w4 ⟨rfl, x4⟩)
        go_roundw
        case rel => exact ⟨k1, K2, by omega, by go_num, HL2, Lib.hid (by rw [hmm1]; exact HU2.out), Lib.hid x4.out.1, Lib.hid x4.out.2.1, Lib.hid x4.out.2.2⟩
        case measure => simp [intOf]; omega
      · have HE := Lib.hid (And.intro hk (And.intro hL.out (And.intro hup.out (And.intro (fun _ : k < I.length => Int.not_le.1 hc) (And.intro hW.out hkp.out)))))
        clear hL hup hW hkp hd ht
        generalize ((n0 + Wl.tot (I.take (k + 1)) : Nat) : Int) = m1 at hc hc1
        generalize k + 1 = k1 at hw hkl hc1
        go_wp2
        go_ret
        exact ⟨k, rfl, K1, HE.out⟩
    · obtain rfl : k = I.length := by omega
      go_wp2
      go_ret
      exact ⟨I.length, K1, rfl, hk, hL.out, hup.out, fun h => absurd h (Nat.lt_irrefl _), hW.out, hkp.out⟩
end Go.Proofs.YtpafialojcidnaaGreatDoor
