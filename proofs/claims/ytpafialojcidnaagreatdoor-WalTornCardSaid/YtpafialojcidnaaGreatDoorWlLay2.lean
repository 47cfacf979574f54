/- wal's lay. -/
import Derived.Test.YtpafialojcidnaaGreatDoorWlLay
namespace Go.Proofs.YtpafialojcidnaaGreatDoor
open Go.RowKit Go.Maps Dk
open Wl (Lo)
set_option linter.unusedVariables false

theorem place1_low {K : St} {g : Lo} (hlast : g.last ≤ 99999999) : (Wl.place1 K g).2.1 ≤ 99999999 := by
  unfold Wl.place1
  split
  · exact Nat.zero_le _
  · split
    · exact hlast
    · split
      · exact Nat.zero_le _
      · split
        · exact Nat.zero_le _
        · rename_i h
          exact Nat.not_lt.1 h
theorem lay1_low {K : St} {g : Lo} {r : Str} (hlast : g.last ≤ 99999999) : (Wl.lay1 K g r).2.1.last ≤ 99999999 ∧ (Wl.lay1 K g r).2.1.next ≤ g.next + 1 ∧ (Wl.lay1 K g r).2.1.nm = g.nm := by
  have hp := place1_low (K := K) hlast
  unfold Wl.lay1
  split
  · exact ⟨hlast, Nat.le_succ _, rfl⟩
  · split
    · exact ⟨hlast, Nat.le_succ _, rfl⟩
    · split
      · exact ⟨hlast, Nat.le_succ _, rfl⟩
      · exact ⟨hp, Nat.le_refl _, rfl⟩

set_option maxHeartbeats 8000000 in
set_option maxRecDepth 100000 in
theorem llay_any {w W : World} {B b d : Nat} {g : Lo} {K : St} (h : Wa w B d K W) (hl : LogAt W B b d g) (hnm : g.nm.length ≤ 16) (hlast : g.last ≤ 99999999) (hnext : g.next ≤ 4611686018427387904) (r : Str) (hr : r.length ≤ 140737488351232) :
    Calls Tryz.prog 31 #[.pointer (some ⟨b, 0, none⟩), .string ⟨r.toArray⟩] W fun x w' => x = .returned (.int .i64 ((Wl.lay1 K g r).2.2 : Nat)) ∧ Wa w B d (Wl.lay1 K g r).1 w' ∧ LogAt w' B b d (Wl.lay1 K g r).2.1 := by
  unfold Wl.lay1
  by_cases hbig : 65536 < r.length
  · rw [if_pos hbig]
    have FR := frame_any r W hr h.good
    rw [show frameErr r = 1 by unfold frameErr; rw [if_pos hbig]] at FR
    have FR := Lib.hid FR
    have HA := Lib.hid (fun w' (hb : Below W.heap.size W w') => And.intro (h.below hb) (hl.below hb))
    generalize frameText r = tx at *
    clear h hl hbig
    go_enter Tryz.func31, Tryz.ntmps31
    go_wp2_with (go_at_call 55; refine FR.out.mono ?_; rintro e w1 ⟨rfl, b1⟩; have HX := Lib.hid (HA.out _ b1); clear b1)
    go_ret
    exact ⟨rfl, HX.out.1, HX.out.2⟩
  · rw [if_neg hbig]
    have FR := Lib.hid (frame_small r W (by omega) h.good)
    have hlen : (Fr.frame r).length ≤ 65543 := by rw [Fr.frame_len]; omega
    have hp := place1_low (K := K) hlast
    have P := Lib.hid (fun w1 (hb : Below W.heap.size W w1) => place_any (h.below hb) (hl.below hb) hnm hlast (K' := (Wl.place1 K g).1) (n := (Wl.place1 K g).2.1) (e := (Wl.place1 K g).2.2) rfl)
    have HA := Lib.hid (fun w' (hb : Below W.heap.size W w') => And.intro (h.below hb) (hl.below hb))
    generalize Fr.frame r = fr at *
    rcases hpl : Wl.place1 K g with ⟨K1, n, e1⟩
    rw [hpl] at P hp
    simp only at P hp
    clear h hpl
    by_cases he1 : e1 = 0
    · subst he1
      rw [if_neg (by simp)]
      have FI := Lib.hid (fun (w2 : World) (h2 : Wa w B d K1 w2) (k2 : LogAt w2 B b d g) (p : Lat grows w2) => file_any p.W (k2.below p.h) (h2.tabs.below p.h h2.size) (Nat.le_trans h2.size p.h.size) hnm n hp)
      have AP := Lib.hid (fun (w3 : World) (h3 : Wa w B d K1 w3) (k3 : LogAt w3 B b d g) => (append_any w3 h3.dsk h3.size (Wl.file g.nm n) fr (by rw [Wl.file_len]; omega) (by omega)).mono (R' := fun e w' => e = .returned (.int .i64 ((Dk.append K1 (Wl.file g.nm n) fr).2 : Nat)) ∧ Wa w B d (Dk.append K1 (Wl.file g.nm n) fr).1 w' ∧ LogAt w' B b d g) fun e w' ⟨x1, x2, x3⟩ => ⟨x1, h3.go x2 x3, k3.kp x3.kp⟩)
      obtain ⟨nm, last, next⟩ := g
      dsimp only at *
      generalize Wl.file nm n = fl at *
      rcases hap : Dk.append K1 fl fr with ⟨K2, e2⟩
      rw [hap] at AP
      simp only at AP ⊢
      have hw : IntKind.i64.wrap ((next : Int) + 1) = ((next + 1 : Nat) : Int) := by rw [IntWalk.i64_in _ ⟨by omega, by omega⟩]; omega
      clear hap hl hbig hnm hr hlen
      by_cases he2 : e2 = 0
      · subst he2
        rw [if_neg (by simp)]
        go_enter Tryz.func31, Tryz.ntmps31
        go_wp2_with (first
          | (go_at_call 55; refine FR.out.mono ?_; rintro e w1 ⟨rfl, b1⟩; have HX := Lib.hid (HA.out _ b1); have PP := Lib.hid (P.out _ b1); clear b1 P)
          | (go_at_call 56; refine PP.out.mono ?_; rintro e w2 ⟨rfl, hk1, hk2⟩; have HK1 := Lib.hid hk1; have HL1 := Lib.hid (HX.out.2.kp hk2); clear hk1 hk2))
        have k0 := HL1.out.disk
        have hlt := HL1.out.lt
        have F := Lib.hid (FI.out _ HK1.out HL1.out)
        have HH := Lib.hid (fun w3 (hb : Below w2.heap.size w2 w3) => AP.out w3 (HK1.out.below hb) (HL1.out.below hb))
        clear FI AP
        refine Og.grow 8 (by kernel_rfl) (by kernel_rfl) fun hc hf => ?_
        simp only [List.take_succ_cons, List.take_zero, List.drop_succ_cons, List.drop_zero]
        repeat (refine Og.det [] rfl (fun K hK => ?_); go_simp; first | (refine hK _ _ ?_; clear hK K) | (with_reducible refine ⟨_, fun p => Og.lays (F.out p), hK _ _ ?_⟩; clear hK K))
        refine Og.fin fun W' hW => ?_
        simp only [Og.opened_nil]
        clear hc hf
        have A' := Lib.hid (HH.out _ hW)
        clear HH hW k0 hlt F
        go_wp2_with (go_at_call 26; refine A'.out.mono ?_; rintro e w4 ⟨rfl, hk1, hk2⟩; have q2 := hk2.last; have q3 := hk2.next; obtain ⟨_, z0, z1, z2, z3⟩ := box4 hk2.box; have W2 := Lib.hid (hk1.set hk2 2 (.int .i64 (n : Int))); have L2 := Lib.hid (hk2.set2 n); have W3 := Lib.hid (W2.out.set L2.out 3 (.int .i64 ((next + 1 : Nat) : Int))); have L3 := Lib.hid (L2.out.set3 (next + 1)); clear hk1 hk2 z0 z1)
        go_ret
        exact ⟨rfl, W3.out, L3.out⟩
      · rw [if_pos he2]
        have he2' : ((e2 : Int) != 0) = true := by simp; omega
        go_enter Tryz.func31, Tryz.ntmps31
        go_wp2_with (first
          | (go_at_call 55; refine FR.out.mono ?_; rintro e w1 ⟨rfl, b1⟩; have HX := Lib.hid (HA.out _ b1); have PP := Lib.hid (P.out _ b1); clear b1 P)
          | (go_at_call 56; refine PP.out.mono ?_; rintro e w2 ⟨rfl, hk1, hk2⟩; have HK1 := Lib.hid hk1; have HL1 := Lib.hid (HX.out.2.kp hk2); clear hk1 hk2))
        have k0 := HL1.out.disk
        have hlt := HL1.out.lt
        have F := Lib.hid (FI.out _ HK1.out HL1.out)
        have HH := Lib.hid (fun w3 (hb : Below w2.heap.size w2 w3) => AP.out w3 (HK1.out.below hb) (HL1.out.below hb))
        clear FI AP
        refine Og.grow 8 (by kernel_rfl) (by kernel_rfl) fun hc hf => ?_
        simp only [List.take_succ_cons, List.take_zero, List.drop_succ_cons, List.drop_zero]
        repeat (refine Og.det [] rfl (fun K hK => ?_); go_simp; first | (refine hK _ _ ?_; clear hK K) | (with_reducible refine ⟨_, fun p => Og.lays (F.out p), hK _ _ ?_⟩; clear hK K))
        refine Og.fin fun W' hW => ?_
        simp only [Og.opened_nil]
        clear hc hf
        have A' := Lib.hid (HH.out _ hW)
        clear HH hW k0 hlt F
        go_wp2_with (go_at_call 26; refine A'.out.mono ?_; rintro e w4 ⟨rfl, hk1, hk2⟩; have HX1 := Lib.hid hk1; have HX2 := Lib.hid hk2; clear hk1 hk2)
        go_ret
        exact ⟨rfl, HX1.out, HX2.out⟩
    · rw [if_pos he1]
      have he1' : ((e1 : Int) != 0) = true := by simp; omega
      clear hl
      go_enter Tryz.func31, Tryz.ntmps31
      go_wp2_with (first
        | (go_at_call 55; refine FR.out.mono ?_; rintro e w1 ⟨rfl, b1⟩; have HX := Lib.hid (HA.out _ b1); have PP := Lib.hid (P.out _ b1); clear b1 P)
        | (go_at_call 56; refine PP.out.mono ?_; rintro e w2 ⟨rfl, hk1, hk2⟩; have HK1 := Lib.hid hk1; have HL1 := Lib.hid (HX.out.2.kp hk2); clear hk1 hk2))
      go_ret
      exact ⟨rfl, HK1.out, HL1.out⟩
end Go.Proofs.YtpafialojcidnaaGreatDoor
