/- Awake: chapter 7's first example. -/
import Derived.Test.YtpafialojcidnaaGreatDoorWlLg
import Derived.Test.YtpafialojcidnaaGreatDoorDkLawP
namespace Go.Proofs.YtpafialojcidnaaGreatDoor
open Go.RowKit Go.Maps Dk
open Wl (Lo Lg Tn)
set_option linter.unusedVariables false

namespace Wl
theorem one_of {K : St} {s x : Str} (h : Vw K [(s, x)]) : ∃ f : Fl, K = Dk.one f ∧ f.name = s ∧ f.all = x := by
  obtain ⟨L, room, dead⟩ := K
  obtain ⟨_, h2, h3, h4⟩ := h
  dsimp only at h2 h3 h4
  subst h2 h3
  match L, h4 with
  | [f], h4 =>
    simp only [List.map_cons, List.map_nil, List.cons.injEq, Prod.mk.injEq, and_true] at h4
    exact ⟨f, rfl, h4.1, h4.2⟩
theorem awk {K : St} {nm a b c : Str} (L : Lg K nm 0 [] [a, b]) (hp : Fr.place [a, b] < 4096) (hc : c.length ≤ 65536) : ∃ K2 K3, Dk.sync K (file nm 0) = (K2, 0) ∧ Lg K2 nm 0 [] [a, b] ∧ Wl.appendL K2 ⟨nm, 0, 2⟩ [c] = (K3, ⟨nm, 0, 3⟩, 0) ∧
    ∃ t, Tn (Dk.crash K3 3) nm 0 [] t [] 0 ∧ Fr.all t = [a, b] := by
  have h0 : 0 + tot [] = 0 := by simp [tot]
  obtain ⟨K2, e2, L2⟩ := L.sync
  rw [h0] at e2
  have hv := L2.vw
  rw [List.nil_append, vv_one] at hv
  obtain ⟨f0, k0, n0, x0⟩ := one_of (by have := L.vw; rw [List.nil_append, vv_one] at this; exact this)
  have hbad : bad (file nm 0) = false := file_bad 0 L.nm16
  have e2' := sync_one (f := f0) (by rw [n0]; exact hbad)
  rw [n0, ← k0, e2, x0] at e2'
  have hk2 : K2 = Dk.one ⟨file nm 0, Fr.flat [a, b], []⟩ := congrArg (·.1) e2'
  have hfl : (Fr.flat [a, b]).length < 4096 := by rw [Fr.flat_len]; exact hp
  have hb2 : bad (Fl.mk (file nm 0) (Fr.flat [a, b]) []).name = false := hbad
  have hall : (Fl.mk (file nm 0) (Fr.flat [a, b]) []).all = Fr.flat [a, b] := by simp [Fl.all]
  have ea := append_two (f := ⟨file nm 0, Fr.flat [a, b], []⟩) (t := Fr.frame c) hb2 (by rw [hall, Fr.frame_len]; omega)
  have es := size_one (f := ⟨file nm 0, Fr.flat [a, b], []⟩) hb2
  rw [hall] at es
  dsimp only at ea es
  rw [← hk2] at ea es
  rw [List.nil_append] at ea
  refine ⟨K2, Dk.one ⟨file nm 0, Fr.flat [a, b], Fr.frame c⟩, e2, L2, ?_, Fr.flat [a, b] ++ (Fr.frame c).take 3, ?_⟩
  · rw [appendL_one hc]
    have hpl : place1 K2 ⟨nm, 0, 2⟩ = (K2, 0, 0) := by
      unfold place1
      dsimp only
      rw [es]
      dsimp only
      rw [if_neg (by decide), if_pos hfl]
    unfold lay1
    rw [if_neg (by omega), hpl]
    dsimp only
    rw [if_neg (by decide), ea]
    rfl
  · have hsm : ∀ x ∈ [a, b, c], x.length ≤ 65536 := fun x hx => by
      rcases List.mem_cons.1 hx with rfl | hx
      · exact L.small [x, b] (by simp) x (by simp)
      · rcases List.mem_cons.1 hx with rfl | hx
        · exact L.small [a, x] (by simp) x (by simp)
        · rw [List.mem_singleton] at hx; rw [hx]; exact hc
    have hfc := Fr.frame_len c
    have e3 : (Fr.flat [a, b, c]).take (Fr.place [a, b] + 3) = Fr.flat [a, b] ++ (Fr.frame c).take 3 := by
      rw [show Fr.flat [a, b, c] = Fr.flat [a, b] ++ Fr.frame c by simp [Fr.flat], List.take_append, Fr.flat_len, List.take_of_length_le (by rw [Fr.flat_len]; omega), Nat.add_sub_cancel_left]
    have hcut : Fr.all (Fr.flat [a, b] ++ (Fr.frame c).take 3) = [a, b] := by
      have := Fr.all_cut [a, b, c] (Fr.place [a, b] + 3) 2 hsm (by simp) (by show Fr.place [a, b] ≤ _; omega) (fun _ => by
        show _ < Fr.place [a, b, c]
        rw [show [a, b, c] = [a, b] ++ [c] from rfl, Fr.place_snoc]; omega)
      rw [e3] at this
      exact this
    refine ⟨⟨⟨?_, rfl, rfl, ?_⟩, L.nm16, fun s hs => (by cases hs), fun s hs => (by cases hs), ?_, ?_, ?_, ?_, by simp [tot], by decide⟩, hcut⟩
    · refine ok_crash ?_ 3
      have := ok_append L2.vw.ok (file nm 0) (Fr.frame c)
      rw [ea] at this
      exact this
    · show [(file nm 0, _)] = [] ++ (file nm (0 + tot []), _) :: []
      rw [h0]
      simp [Fl.all, kept]
    · rw [hcut]; exact fun x hx => hsm x (by rcases List.mem_cons.1 hx with rfl | hx; · simp
                                             · rw [List.mem_singleton] at hx; rw [hx]; simp)
    · rw [hcut, List.length_append, Fr.flat_len, List.length_take, hfc]; omega
    · rw [hcut, ← Fr.flat_len, List.take_left' rfl]
    · rw [hcut]; simp [tot]
theorem two_small {K : St} {nm a b : Str} (L : Lg K nm 0 [] []) (ha : a.length ≤ 1000) (hb : b.length ≤ 1000) : ∃ K', Wl.appendL K ⟨nm, 0, 0⟩ [a, b] = (K', ⟨nm, 0, 2⟩, 0) ∧ Lg K' nm 0 [] [a, b] := by
  have t0 : tot [] = 0 := by simp [tot]
  obtain ⟨K1, I1, R1, e1, L1, _, _, _, _, h1⟩ := L.lay (r := a) (by omega) (by simp [t0]) (.inl (by decide))
  rcases h1 with ⟨_, rfl, rfl⟩ | ⟨h, _⟩
  · obtain ⟨K2, I2, R2, e2, L2, _, _, _, _, h2⟩ := L1.lay (r := b) (by omega) (by simp [t0]) (.inl (by decide))
    rcases h2 with ⟨_, rfl, rfl⟩ | ⟨h, _⟩
    · refine ⟨K2, ?_, L2⟩
      unfold Wl.appendL
      rw [if_neg (by simp; omega), Wl.lays]
      simp only [t0, Nat.add_zero, List.length_nil] at e1
      rw [e1]
      dsimp only
      rw [if_neg (by decide), Wl.lays]
      simp only [t0, Nat.add_zero] at e2
      rw [e2]
      rfl
    · simp [Fr.place] at h
      omega
  · simp [Fr.place] at h
end Wl

theorem owns_reads {W : World} {B n cap : Nat} {A : Option Addr} {l : List Str} (h : OwnS W B (.slice A n cap) l) : Reads W W.heap.size A (strings l) := by
  obtain ⟨A', cap', e, hr⟩ := owns_at h
  cases e
  exact hr
/-- a row of texts that lies whole -/
theorem row_reads {W : World} {B d i : Nat} {l : List Str} (hb : W.heap[i]? = some (.cells (strings l).toArray 9 (0, 0))) : ∀ W' K', Wa W B d K' W' → Reads W' W'.heap.size (some ⟨i, 0, none⟩) (strings l) := fun W' K' h _ => by
  have hx := h.held (j := 0) hb rfl
  exact ⟨i, 0, rfl, heap_lt hx, fun k v hk => by rw [cellAt hx]; simpa using hk⟩

set_option maxHeartbeats 16000000 in
set_option maxRecDepth 100000 in
theorem awake_any (w : World) {B : Nat} (ht : Tabs B w) (hB : B ≤ w.heap.size) : Calls Tryz.prog 18 #[] w fun e w' => e = .returned (.bool true) ∧ Below w.heap.size w w' := by
  have N := Lib.hid (new_wa w ht hB)
  have O := Lib.hid (fun (W : World) (d : Nat) (h : Wa w w.heap.size d Dk.new W) => lg_first (nm := [108, 111, 103]) h nm_log)
  obtain ⟨la, hla⟩ : ∃ la : Str, la = [97] := ⟨_, rfl⟩
  obtain ⟨lb, hlb⟩ : ∃ lb : Str, lb = [98] := ⟨_, rfl⟩
  obtain ⟨lc, hlc⟩ : ∃ lc : Str, lc = [99] := ⟨_, rfl⟩
  clear ht
  go_enter Tryz.func18, Tryz.ntmps18
  go_wp2_with fail
  refine N.out.mono ?_
  rintro e w1 ⟨rfl, x1, b1⟩
  have O1 := Lib.hid (O.out w1 _ x1)
  clear O N x1
  go_wp2_with fail
  refine O1.out.mono ?_
  rintro e w2 ⟨b, v, K, rfl, hb, hv, x2, l2, k2, L2⟩
  clear O1
  obtain ⟨A, cap, rfl⟩ := owns_len hv
  have t0 : Wl.tot [] = 0 := by simp [Wl.tot]
  -- two records
  obtain ⟨K3, e3, L3⟩ := Wl.two_small (a := [97]) (b := [98]) L2 (by decide) (by decide)
  have hrow := at1 w2 (.cells #[.string ⟨#[97]⟩, .string ⟨#[98]⟩] 9)
  have bel := bel1 w2 (.cells #[.string ⟨#[97]⟩, .string ⟨#[98]⟩] 9)
  have A1 := lappend_any (x2.below bel) (l2.below bel) (by decide) (Nat.zero_le _) (Nat.zero_le _) (some ⟨w2.heap.size, 0, none⟩) 2 [[97], [98]] (by decide) (by decide) (row_reads (l := [[97], [98]]) hrow)
  rw [e3] at A1
  have HA1 := Lib.hid A1
  clear A1 hrow bel hv x2 l2 k2 e3 L2
  go_wp2_with fail
  refine HA1.out.mono ?_
  rintro e w4 ⟨rfl, x4, l4⟩
  clear HA1
  -- made sure
  obtain ⟨K5, K6, e5, L5, e6, t, T7, hall⟩ := Wl.awk (c := [99]) L3 (by decide) (by decide)
  have S1 := Lib.hid (lsync_any x4 l4 (by decide) (Nat.zero_le _) e5)
  clear e5 L3
  go_wp2_with fail
  refine S1.out.mono ?_
  rintro e w5 ⟨rfl, x5, k5⟩
  have l5 := l4.kp k5
  clear S1 l4 x4 k5
  -- one more
  have hrow := at1 w5 (.cells #[.string ⟨#[99]⟩] 9)
  have bel := bel1 w5 (.cells #[.string ⟨#[99]⟩] 9)
  have A1 := lappend_any (x5.below bel) (l5.below bel) (by decide) (Nat.zero_le _) (by decide) (some ⟨w5.heap.size, 0, none⟩) 1 [[99]] (by decide) (by decide) (row_reads (l := [[99]]) hrow)
  rw [e6] at A1
  have HA1 := Lib.hid A1
  clear A1 hrow bel x5 l5 e6 L5
  go_wp2_with fail
  refine HA1.out.mono ?_
  rintro e w6 ⟨rfl, x6, l6⟩
  clear HA1
  -- a crash
  have C1 : Hid (Calls Tryz.prog 40 #[.pointer (some ⟨w.heap.size, 0, none⟩), .int .i64 3] w6 fun e w' => e = .returned (.tuple #[]) ∧ Wa w w.heap.size w.heap.size (Dk.crash K6 3) w') := Lib.hid ((at_crash x6.at_ rfl (by decide)).mono fun e w' ⟨y1, y2⟩ => ⟨y1, x6.via y2⟩)
  clear x6 l6
  go_wp2_with fail
  refine C1.out.mono ?_
  rintro e w7 ⟨rfl, x7⟩
  -- opened again
  have O2 := Lib.hid (tn_open x7 nm_log T7)
  rw [hall] at O2
  clear C1 x7 T7
  go_wp2_with fail
  refine O2.out.mono ?_
  rintro e w8 ⟨b8, v8, K8, rfl, hb8, hv8, x8, l8, k8, L8⟩
  obtain ⟨A8, cap8, rfl⟩ := owns_len hv8
  clear O2
  have hrow := at1 w8 (.cells #[.string ⟨#[97]⟩, .string ⟨#[98]⟩] 9)
  have bel := bel1 w8 (.cells #[.string ⟨#[97]⟩, .string ⟨#[98]⟩] 9)
  have hv8' : OwnS w8 w7.heap.size (.slice A8 2 cap8) [[97], [98]] := hv8
  have SA := Lib.hid (same_any A8 cap8 (some ⟨w8.heap.size, 0, none⟩) 2 [[97], [98]] _ _ _ (by decide) (owns_reads (owns_below hv8' bel)) (by
    intro _
    exact ⟨w8.heap.size, 0, rfl, heap_lt hrow, fun k v hk => by rw [cellAt hrow]; simpa [strings] using hk⟩))
  have x9 := x8.below bel
  have l9 := l8.below bel
  rw [t0] at l9
  clear hrow hv8 hv8' x8 l8
  go_wp2_with fail
  refine SA.out.mono ?_
  rintro e w9 ⟨rfl, b9⟩
  have x10 := x9.below b9
  have l10 := l9.below b9
  have NX := Lib.hid (next_any w9 l10)
  have hns := L8.ns
  rw [List.nil_append, Wl.firsts_one] at hns
  have FS := Lib.hid (first_some w9 l10 x10.dsk (by decide) hns)
  clear SA x9 l9 l10 hns
  go_wp2_with fail
  refine NX.out.mono ?_
  rintro e w10 ⟨rfl, rfl⟩
  go_wp2_with fail
  refine FS.out.mono ?_
  rintro e w11 ⟨rfl, b11⟩
  go_wp2
  go_ret
  exact ⟨rfl, (x10.below b11).bel⟩
end Go.Proofs.YtpafialojcidnaaGreatDoor
