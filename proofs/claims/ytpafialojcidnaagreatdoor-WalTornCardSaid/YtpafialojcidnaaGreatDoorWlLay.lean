/- wal's place, lay, Append. -/
import Derived.Test.YtpafialojcidnaaGreatDoorWlFrames
namespace Go.Proofs.YtpafialojcidnaaGreatDoor
open Go.RowKit Go.Maps Dk
open Wl (Lo)
set_option linter.unusedVariables false

set_option maxHeartbeats 8000000 in
set_option maxRecDepth 100000 in
theorem place_any {w W : World} {B b d n e : Nat} {g : Lo} {K K' : St} (h : Wa w B d K W) (hl : LogAt W B b d g) (hnm : g.nm.length ≤ 16) (hlast : g.last ≤ 99999999) (hp : Wl.place1 K g = (K', n, e)) :
    Calls Tryz.prog 56 #[.pointer (some ⟨b, 0, none⟩)] W fun x w' => x = .returned (.tuple #[.int .i64 (n : Int), .int .i64 (e : Int)]) ∧ Wa w B d K' w' ∧ Kp isRef W w' := by
  have k0 := hl.disk
  have hlt := hl.lt
  have F := Lib.hid (fun (p : Lat grows W) => file_any p.W (hl.below p.h) (h.tabs.below p.h h.size) (Nat.le_trans h.size p.h.size) hnm g.last hlast)
  rcases hsz : Dk.size K (Wl.file g.nm g.last) with ⟨a, a2, e1⟩
  have Z : Hid (∀ p : Lat grows W, Calls Tryz.prog 69 #[.pointer (some ⟨d, 0, none⟩), .string ⟨(Wl.file g.nm g.last).toArray⟩] p.W fun e w' => e = .returned (.tuple #[.int .i64 (a : Int), .int .i64 (a2 : Int), .int .i64 (e1 : Int)]) ∧ Below p.W.heap.size p.W w') := Lib.hid fun p => by
    refine (size_any p.W (h.dsk.below p.h) (Wl.file g.nm g.last) (by rw [Wl.file_len]; omega)).mono ?_
    rintro e' w' ⟨h1, h2⟩
    rw [hsz] at h1
    exact ⟨h1, h2⟩
  have HW := Lib.hid (fun W' (hb : Below W.heap.size W W') => (And.intro (h.below hb) (hl.below hb)))
  have k2 := hl.last
  have k3 := hl.next
  have Y : Hid (∀ W', Below W.heap.size W W' → Calls Tryz.prog 24 #[.pointer (some ⟨b, 0, none⟩)] W' fun e w' => e = .returned (.int .i64 ((Dk.sync K (Wl.file g.nm g.last)).2 : Int)) ∧ (Wa w B d (Dk.sync K (Wl.file g.nm g.last)).1 w' ∧ Kp isRef W w') ∧ w'.cell? ⟨b, 3, none⟩ = some (.int .i64 (g.next : Int))) := Lib.hid fun W' hb => by
    refine (lsync_any (h.below hb) (hl.below hb) hnm hlast rfl).mono ?_
    rintro e' w' ⟨h1, h2, h3⟩
    exact ⟨h1, ⟨h2, (Kp.below hb).trans h3⟩, ((hl.below hb).kp h3).next⟩
  have hbad : bad (Wl.file g.nm g.last) = false := Wl.file_bad _ hnm
  unfold Wl.place1 at hp
  rw [hsz] at hp
  simp only at hp
  have ha : a ≤ 4194304 := by
    unfold Dk.size at hsz
    split at hsz
    · rename_i h0
      obtain ⟨_, f, hlk, hf, _⟩ := err0_look h0
      rw [hlk] at hsz
      simp only [Option.map_some, Option.getD_some, Prod.mk.injEq] at hsz
      rw [← hsz.1]
      exact h.dsk.ok.small f hf
    · simp only [Prod.mk.injEq] at hsz; omega
  clear hl hnm hlast hsz hbad
  generalize hfl : Wl.file g.nm g.last = fl at *
  generalize g.last = last at *
  generalize g.next = next at *
  clear hfl
  rcases hsy : Dk.sync K fl with ⟨K1, e2⟩
  rw [hsy] at Y hp
  simp only at Y hp
  clear hsy
  have H0 := Lib.hid (fun W' (hb : Below W.heap.size W W') => And.intro (h.below hb) (Kp.below (p := isRef) hb))
  clear h HW
  by_cases he1 : e1 = 0
  · subst he1
    rw [if_neg (by simp)] at hp
    by_cases hfull : a < 4096
    · rw [if_pos hfull] at hp
      simp only [Prod.mk.injEq] at hp
      obtain ⟨rfl, rfl, rfl⟩ := hp
      have hfull' : (a : Int) < 4096 := by omega
      clear Y
      go_enter Tryz.func56, Tryz.ntmps56
      go_wp2_with fail
      refine Og.grow 18 (by kernel_rfl) (by kernel_rfl) fun hc hf => ?_
      simp only [List.take_succ_cons, List.take_zero, List.drop_succ_cons, List.drop_zero]
      repeat (refine Og.det [] rfl (fun K hK => ?_); go_simp; first | (refine hK _ _ ?_; clear hK K) | (with_reducible refine ⟨_, fun p => Og.lays (F.out p), hK _ _ ?_⟩; clear hK K) | (with_reducible refine ⟨_, fun p => Og.lays (Z.out p), hK _ _ ?_⟩; clear hK K))
      refine Og.fin fun W' hW => ?_
      simp only [Og.opened_nil]
      clear hc hf
      have q2 : W'.cell? ⟨b, 2, none⟩ = some (.int .i64 (last : Int)) := (hW.cell (p := ⟨b, 2, none⟩) hlt).trans k2
      have HH := H0.out _ hW
      have HA := Lib.hid HH
      clear hW HH k2
      go_wp2
      go_ret2
      exact ⟨rfl, HA.out.1, HA.out.2⟩
    · rw [if_neg hfull] at hp
      have hfull' : ¬ (a : Int) < 4096 := by omega
      by_cases he2 : e2 = 0
      · subst he2
        rw [if_neg (by simp)] at hp
        by_cases htop : 99999999 < next
        · rw [if_pos htop] at hp
          simp only [Prod.mk.injEq] at hp
          obtain ⟨rfl, rfl, rfl⟩ := hp
          have htop' : (next : Int) > 99999999 := by omega
          go_enter Tryz.func56, Tryz.ntmps56
          go_wp2_with fail
          refine Og.grow 18 (by kernel_rfl) (by kernel_rfl) fun hc hf => ?_
          simp only [List.take_succ_cons, List.take_zero, List.drop_succ_cons, List.drop_zero]
          repeat (refine Og.det [] rfl (fun K hK => ?_); go_simp; first | (refine hK _ _ ?_; clear hK K) | (with_reducible refine ⟨_, fun p => Og.lays (F.out p), hK _ _ ?_⟩; clear hK K) | (with_reducible refine ⟨_, fun p => Og.lays (Z.out p), hK _ _ ?_⟩; clear hK K))
          refine Og.fin fun W' hW => ?_
          simp only [Og.opened_nil]
          clear hc hf
          have YW := Lib.hid (Y.out _ hW)
          clear hW k2 k3 Y
          go_wp2_with (go_at_call 24; refine YW.out.mono ?_; rintro e w1 ⟨rfl, hk1, q3⟩; have HK1 := Lib.hid hk1; clear hk1)
          go_ret2
          exact ⟨rfl, HK1.out.1, HK1.out.2⟩
        · rw [if_neg htop] at hp
          simp only [Prod.mk.injEq] at hp
          obtain ⟨rfl, rfl, rfl⟩ := hp
          have htop' : ¬ (next : Int) > 99999999 := by omega
          go_enter Tryz.func56, Tryz.ntmps56
          go_wp2_with fail
          refine Og.grow 18 (by kernel_rfl) (by kernel_rfl) fun hc hf => ?_
          simp only [List.take_succ_cons, List.take_zero, List.drop_succ_cons, List.drop_zero]
          repeat (refine Og.det [] rfl (fun K hK => ?_); go_simp; first | (refine hK _ _ ?_; clear hK K) | (with_reducible refine ⟨_, fun p => Og.lays (F.out p), hK _ _ ?_⟩; clear hK K) | (with_reducible refine ⟨_, fun p => Og.lays (Z.out p), hK _ _ ?_⟩; clear hK K))
          refine Og.fin fun W' hW => ?_
          simp only [Og.opened_nil]
          clear hc hf
          have YW := Lib.hid (Y.out _ hW)
          clear hW k2 k3 Y
          go_wp2_with (go_at_call 24; refine YW.out.mono ?_; rintro e w1 ⟨rfl, hk1, q3⟩; have HK1 := Lib.hid hk1; clear hk1)
          go_ret2
          exact ⟨rfl, HK1.out.1, HK1.out.2⟩
      · rw [if_pos he2] at hp
        simp only [Prod.mk.injEq] at hp
        obtain ⟨rfl, rfl, rfl⟩ := hp
        have he2' : ((e2 : Int) != 0) = true := by simp; omega
        go_enter Tryz.func56, Tryz.ntmps56
        go_wp2_with fail
        refine Og.grow 18 (by kernel_rfl) (by kernel_rfl) fun hc hf => ?_
        simp only [List.take_succ_cons, List.take_zero, List.drop_succ_cons, List.drop_zero]
        repeat (refine Og.det [] rfl (fun K hK => ?_); go_simp; first | (refine hK _ _ ?_; clear hK K) | (with_reducible refine ⟨_, fun p => Og.lays (F.out p), hK _ _ ?_⟩; clear hK K) | (with_reducible refine ⟨_, fun p => Og.lays (Z.out p), hK _ _ ?_⟩; clear hK K))
        refine Og.fin fun W' hW => ?_
        simp only [Og.opened_nil]
        clear hc hf
        have YW := Lib.hid (Y.out _ hW)
        clear hW k2 k3 Y
        go_wp2_with (go_at_call 24; refine YW.out.mono ?_; rintro e w1 ⟨rfl, hk1, q3⟩; have HK1 := Lib.hid hk1; clear hk1)
        go_ret2
        exact ⟨rfl, HK1.out.1, HK1.out.2⟩
  · rw [if_pos he1] at hp
    simp only [Prod.mk.injEq] at hp
    obtain ⟨rfl, rfl, rfl⟩ := hp
    have he1' : ((e1 : Int) != 0) = true := by simp; omega
    clear Y
    go_enter Tryz.func56, Tryz.ntmps56
    go_wp2_with fail
    refine Og.grow 18 (by kernel_rfl) (by kernel_rfl) fun hc hf => ?_
    simp only [List.take_succ_cons, List.take_zero, List.drop_succ_cons, List.drop_zero]
    repeat (refine Og.det [] rfl (fun K hK => ?_); go_simp; first | (refine hK _ _ ?_; clear hK K) | (with_reducible refine ⟨_, fun p => Og.lays (F.out p), hK _ _ ?_⟩; clear hK K) | (with_reducible refine ⟨_, fun p => Og.lays (Z.out p), hK _ _ ?_⟩; clear hK K))
    refine Og.fin fun W' hW => ?_
    simp only [Og.opened_nil]
    clear hc hf
    have HH := H0.out _ hW
    have HA := Lib.hid HH
    clear hW HH k2
    go_wp2
    go_ret2
    exact ⟨rfl, HA.out.1, HA.out.2⟩
end Go.Proofs.YtpafialojcidnaaGreatDoor
