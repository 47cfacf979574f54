/- wal's Append. -/
import Derived.Test.YtpafialojcidnaaGreatDoorWlLay2
namespace Go.Proofs.YtpafialojcidnaaGreatDoor
open Go.RowKit Go.Maps Dk
open Wl (Lo)
set_option linter.unusedVariables false

def tooB (r : Str) : Bool := decide (65536 < r.length)
set_option maxHeartbeats 1000000 in
set_option maxRecDepth 100000 in
theorem big_any (r : Str) (w : World) : Calls Tryz.prog 30 #[.string ⟨r.toArray⟩] w fun e w' => e = .returned (.bool (tooB r)) ∧ w = w' := by
  have h : tooB r = decide ((65536 : Int) < (r.length : Int)) := by unfold tooB; rw [decide_eq_decide]; omega
  rw [h]
  go_enter Tryz.func30, Tryz.ntmps30
  go_wp2
  go_ret
  exact ⟨rfl, rfl⟩
theorem any_take (l : List Str) (k : Nat) (h : k < l.length) : (l.take (k + 1)).any tooB = ((l.take k).any tooB || tooB l[k]) := by
  rw [List.take_succ_eq_append_getElem h, List.any_append]; simp

set_option maxHeartbeats 4000000 in
set_option maxRecDepth 100000 in
theorem idxBig_any (A : Option Addr) (cap : Nat) (l : List Str) (w : World) (B : Nat) (hl : l.length ≤ 140737488351232) (hr : Reads w B A (strings l)) :
    Calls Tryz.prog 54 #[.slice A l.length cap, .func (.func 30) #[] #[]] w fun e w' => ∃ k : Int, e = .returned (.int .i64 k) ∧ decide (0 ≤ k) = l.any tooB ∧ w = w' := by
  have G := Lib.hid (fun r => big_any r w)
  go_enter Tryz.func54, Tryz.ntmps54
  go_wp2
  go_loop [8] (fun i => ∃ k : Nat, k ≤ l.length ∧ i = .int .i64 k ∧ Hid ((l.take k).any tooB = false)) (fun i => l.length - (intOf i).toNat)
  case atStart => exact ⟨0, Nat.zero_le _, rfl, Lib.hid rfl⟩
  case round =>
    obtain ⟨k, hk, rfl, hno⟩ := hrel
    by_cases hlt : k < l.length
    · obtain ⟨b, off, rfl, hbB, hcell⟩ := hr.at_ (k := k) (by simpa [strings] using hlt)
      have hcw : w.cell? ⟨b, off + k, none⟩ = some (.string ⟨(l[k] : Str).toArray⟩) := by rw [hcell]; simp [strings]
      have HN := Lib.hid (any_take l k hlt)
      have HY : Hid (tooB l[k] = true → l.any tooB = true) := Lib.hid fun h => List.any_eq_true.2 ⟨l[k], List.getElem_mem hlt, h⟩
      generalize (l[k] : Str) = x at *
      have GX := Lib.hid (G.out x)
      clear hcell hr G
      cases ht : tooB x with
      | true =>
        rw [ht] at GX
        go_wp2_with fail
        refine GX.out.mono ?_
        rintro e w1 ⟨rfl, rfl⟩
        go_wp2
        go_ret
        exact ⟨_, rfl, by rw [HY.out ht]; exact decide_eq_true (by omega), rfl⟩
      | false =>
        rw [ht] at GX
        go_wp2_with fail
        refine GX.out.mono ?_
        rintro e w1 ⟨rfl, rfl⟩
        go_wp2
        go_round
        case rel => exact ⟨k + 1, by omega, by go_num, Lib.hid (by rw [HN.out, hno.out, ht]; rfl)⟩
        case measure => simp [intOf]; omega
    · obtain rfl : k = l.length := by omega
      have hn := hno.out
      rw [List.take_length] at hn
      have HN := Lib.hid hn
      clear hr hn hno
      go_wp2
      go_ret
      exact ⟨_, rfl, by rw [HN.out]; rfl, rfl⟩

set_option maxHeartbeats 1000000 in
set_option maxRecDepth 100000 in
theorem hasBig_any (A : Option Addr) (cap : Nat) (l : List Str) (w : World) (B : Nat) (hl : l.length ≤ 140737488351232) (hr : Reads w B A (strings l)) :
    Calls Tryz.prog 29 #[.slice A l.length cap, .func (.func 30) #[] #[]] w fun e w' => e = .returned (.bool (l.any tooB)) ∧ w = w' := by
  have X := Lib.hid (idxBig_any A cap l w B hl hr)
  clear hr
  go_enter Tryz.func29, Tryz.ntmps29
  go_wp2_with fail
  refine X.out.mono ?_
  rintro e w1 ⟨k, rfl, hk, rfl⟩
  have HK := Lib.hid hk
  clear hk
  go_wp2
  go_ret
  exact ⟨ret_bool HK.out, rfl⟩

/-! ### Append -/
theorem lays_step (K : St) (g : Lo) (l : List Str) (k : Nat) (h : k < l.length) (h0 : (Wl.lays K g (l.take k)).2.2 = 0) :
    Wl.lays K g (l.take (k + 1)) = Wl.lay1 (Wl.lays K g (l.take k)).1 (Wl.lays K g (l.take k)).2.1 l[k] := by
  induction l generalizing K g k with
  | nil => simp at h
  | cons r l ih =>
    cases k with
    | zero => 
      simp only [List.take_zero, List.take_succ_cons, Wl.lays, List.getElem_cons_zero]
      split
      · rfl
      · rename_i h1
        have h1 : (Wl.lay1 K g r).2.2 = 0 := by simpa using h1
        rw [← h1]
    | succ k =>
      simp only [List.take_succ_cons, Wl.lays, List.getElem_cons_succ] at h0 ⊢
      by_cases h1 : (Wl.lay1 K g r).2.2 ≠ 0
      · rw [if_pos h1] at h0; exact absurd h0 h1
      · rw [if_neg h1] at h0 ⊢
        rw [if_neg h1]
        exact ih _ _ k (by simpa using h) h0
theorem lays_stop (K : St) (g : Lo) (l : List Str) (k : Nat) (h : k ≤ l.length) (h0 : (Wl.lays K g (l.take k)).2.2 ≠ 0) : Wl.lays K g l = Wl.lays K g (l.take k) := by
  induction l generalizing K g k with
  | nil => simp at h; subst h; rfl
  | cons r l ih =>
    cases k with
    | zero => exact absurd rfl h0
    | succ k =>
      simp only [List.take_succ_cons, Wl.lays] at h0 ⊢
      by_cases h1 : (Wl.lay1 K g r).2.2 ≠ 0
      · rw [if_pos h1, if_pos h1]
      · rw [if_neg h1] at h0
        rw [if_neg h1, if_neg h1]
        exact ih _ _ k (by simpa using h) h0
theorem lays_low {l : List Str} : ∀ {K : St} {g : Lo}, g.last ≤ 99999999 → (Wl.lays K g l).2.1.last ≤ 99999999 ∧ (Wl.lays K g l).2.1.next ≤ g.next + l.length ∧ (Wl.lays K g l).2.1.nm = g.nm := by
  induction l with
  | nil => intro K g h; exact ⟨h, Nat.le_refl _, rfl⟩
  | cons r l ih =>
    intro K g h
    obtain ⟨a1, a2, a3⟩ := lay1_low (K := K) (r := r) h
    rw [Wl.lays, List.length_cons]
    split
    · exact ⟨a1, Nat.le_trans a2 (by omega), a3⟩
    · obtain ⟨b1, b2, b3⟩ := ih (K := (Wl.lay1 K g r).1) (g := (Wl.lay1 K g r).2.1) a1
      exact ⟨b1, by omega, b3.trans a3⟩

set_option maxHeartbeats 8000000 in
set_option maxRecDepth 100000 in
theorem lappend_any {w W : World} {B b d : Nat} {g : Lo} {K : St} (h : Wa w B d K W) (hl : LogAt W B b d g) (hnm : g.nm.length ≤ 16) (hlast : g.last ≤ 99999999) (hnext : g.next ≤ 1000000000) (A : Option Addr) (cap : Nat) (l : List Str) (hlen : l.length ≤ 1000000000) (hs : ∀ r ∈ l, r.length ≤ 140737488351232)
    (hr : ∀ W' K', Wa W B d K' W' → Reads W' W'.heap.size A (strings l)) :
    Calls Tryz.prog 11 #[.pointer (some ⟨b, 0, none⟩), .slice A l.length cap] W fun x w' => x = .returned (.int .i64 ((Wl.appendL K g l).2.2 : Nat)) ∧ Wa w B d (Wl.appendL K g l).1 w' ∧ LogAt w' B b d (Wl.appendL K g l).2.1 := by
  have HC := hasBig_any A cap l W W.heap.size (by omega) (hr W K h.here)
  have hlt := hl.lt
  unfold Wl.appendL
  rw [show (fun r : Str => decide (65536 < r.length)) = tooB from rfl]
  cases hb : l.any tooB with
  | true =>
    rw [hb] at HC
    have HC := Lib.hid HC
    have H1 := Lib.hid h
    have H2 := Lib.hid hl
    clear h hl hr hs
    go_enter Tryz.func11, Tryz.ntmps11
    go_wp2_with (go_at_call 29; refine HC.out.mono ?_; rintro e w1 ⟨rfl, rfl⟩)
    go_ret
    exact ⟨rfl, H1.out, H2.out⟩
  | false =>
    rw [hb] at HC
    have HC := Lib.hid HC
    simp only [Bool.false_eq_true, if_false]
    have LY := Lib.hid (fun (k : Nat) (hk : k < l.length) (W1 : World) (h1 : Wa W B d (Wl.lays K g (l.take k)).1 W1) (h2 : LogAt W1 B b d (Wl.lays K g (l.take k)).2.1) => by
      obtain ⟨a1, a2, a3⟩ := lays_low (l := l.take k) (K := K) (g := g) hlast
      rw [List.length_take] at a2
      exact llay_any h1 h2 (by rw [a3]; exact hnm) a1 (by omega) l[k] (hs _ (List.getElem_mem hk)))
    have ST := Lib.hid (fun k hk h0 => lays_step K g l k hk h0)
    have SP := Lib.hid (fun k hk h0 => lays_stop K g l k hk h0)
    have HR := Lib.hid hr
    have H1 := Lib.hid h
    have H2 := Lib.hid hl
    clear h hl hr hs hb
    go_enter Tryz.func11, Tryz.ntmps11
    go_wp2_with (go_at_call 29; refine HC.out.mono ?_; rintro e w1 ⟨rfl, rfl⟩)
    go_loopw [16] (fun i wr => ∃ m : Nat, m ≤ l.length ∧ i = .int .i64 m ∧ Hid ((Wl.lays K g (l.take m)).2.2 = 0) ∧ Hid (Wa W B d (Wl.lays K g (l.take m)).1 wr) ∧ Hid (LogAt wr B b d (Wl.lays K g (l.take m)).2.1)) (fun i _ => l.length - (intOf i).toNat)
    case atStart => exact ⟨0, Nat.zero_le _, rfl, Lib.hid rfl, Lib.hid H1.out.here, H2⟩
    case round =>
      obtain ⟨m, hm, rfl, he, hW, hL⟩ := hrel
      by_cases hlt2 : m < l.length
      · obtain ⟨bk, off, rfl, hbB, hcell⟩ := (HR.out _ _ hW.out).at_ (k := m) (by simpa [strings] using hlt2)
        have hcw : wr.cell? ⟨bk, off + m, none⟩ = some (.string ⟨(l[m] : Str).toArray⟩) := by rw [hcell]; simp [strings]
        have L0 := LY.out m hlt2 wr hW.out hL.out
        rw [← ST.out m hlt2 he.out] at L0
        have L1 := Lib.hid L0
        clear L0
        generalize (l[m] : Str) = x at *
        clear hcell hW hL LY ST
        by_cases h0 : (Wl.lays K g (l.take (m + 1))).2.2 = 0
        · rw [h0] at L1
          have HE := Lib.hid h0
          clear h0
          go_wp2_with (go_at_call 31; refine L1.out.mono ?_; rintro e w2 ⟨rfl, hk1, hk2⟩; have HK1 := Lib.hid hk1; have HK2 := Lib.hid hk2; clear hk1 hk2)
          go_roundw
          case rel => exact ⟨m + 1, by omega, by go_num, HE, HK1, HK2⟩
          case measure => simp [intOf]; omega
        · have hsp := SP.out (m + 1) (by omega) h0
          clear SP
          generalize Wl.lays K g (l.take (m + 1)) = R at *
          have HSP := Lib.hid hsp
          clear hsp
          have h0' : ((R.2.2 : Int) != 0) = true := by simp; omega
          clear h0
          go_wp2_with (go_at_call 31; refine L1.out.mono ?_; rintro e w2 ⟨rfl, hk1, hk2⟩; have HK1 := Lib.hid hk1; have HK2 := Lib.hid hk2; clear hk1 hk2)
          go_ret
          rw [HSP.out]
          exact ⟨rfl, H1.out.trans HK1.out, HK2.out⟩
      · obtain rfl : m = l.length := by omega
        rw [List.take_length] at he hW hL
        clear LY ST SP HR
        go_wp2
        go_ret
        exact ⟨by rw [he.out]; rfl, H1.out.trans hW.out, hL.out⟩
end Go.Proofs.YtpafialojcidnaaGreatDoor
