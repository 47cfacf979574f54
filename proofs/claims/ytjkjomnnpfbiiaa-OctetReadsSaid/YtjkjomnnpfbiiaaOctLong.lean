/- long: are there too many texts, or bytes? The law OctetLays, walked. -/
import Derived.Test.YtjkjomnnpfbiiaaOctAwake
namespace Go.Proofs.Ytjkjomnnpfbiiaa
open Go.RowKit
set_option linter.unusedVariables false

def longB (l : List (List UInt8)) : Bool := decide (60 < l.length ∨ 100000 < total l)
theorem longB_t {l : List (List UInt8)} (h : 60 < l.length ∨ 100000 < total l) : longB l = true := decide_eq_true h
theorem longB_f {l : List (List UInt8)} (h : ¬ (60 < l.length ∨ 100000 < total l)) : longB l = false := decide_eq_false h
theorem take_one {l : List (List UInt8)} {k : Nat} (h : k < l.length) : l.take (k + 1) = l.take k ++ [l[k]] := List.take_succ_eq_append_getElem h

set_option maxHeartbeats 1000000 in
theorem long_any (A : Option Addr) (cap : Nat) (l : List (List UInt8)) (w : World) (hs : ∀ s ∈ l, s.length ≤ 140737488351232) (hr : Reads w w.heap.size A (strings l)) :
    Calls Try.prog 9 #[.slice A l.length cap] w fun e w' => e = .returned (.bool (longB l)) ∧ w = w' := by
  by_cases h60 : 60 < l.length
  · have HE := Lib.hid (longB_t (.inl h60))
    have h60' : (60 : Int) < (l.length : Int) := by omega
    go_enter Try.func9, Try.ntmps9
    go_wp2
    go_ret
    exact ⟨bool_ret (by rw [HE.out]), rfl⟩
  · have hd : decide ((60 : Int) < (l.length : Int)) = false := by simp; omega
    go_enter Try.func9, Try.ntmps9
    go_wp2
    go_loop [3, 4] (fun n i => ∃ k m : Nat, k ≤ l.length ∧ i = .int .i64 k ∧ n = .int .i64 m ∧ m ≤ 100000 ∧ Hid (m = total (l.take k))) (fun _ i => l.length - (intOf i).toNat)
    case atStart => exact ⟨0, 0, Nat.zero_le _, rfl, rfl, by omega, rfl⟩
    case round =>
      obtain ⟨k, m, hk, rfl, rfl, hm1, hm⟩ := hrel
      by_cases hlt : k < l.length
      · obtain ⟨x, hx⟩ : ∃ x, x = l[k] := ⟨_, rfl⟩
        obtain ⟨b, off, rfl, hbB, hc⟩ := hr.at_ (k := k) (by simpa [strings] using hlt)
        have hcw : w.cell? ⟨b, off + k, none⟩ = some (.string ⟨x.toArray⟩) := by rw [hc, hx]; simp [strings]
        have hxl : x.length ≤ 140737488351232 := hs x (by rw [hx]; exact List.getElem_mem _)
        have HN : Hid (m + x.length = total (l.take (k + 1))) := Lib.hid (by rw [take_one hlt, total_snoc, ← hm.out, hx])
        have hle := total_take l (k + 1)
        rw [← HN.out] at hle
        clear hx hc
        by_cases hbig : 100000 < m + x.length
        · have HE := Lib.hid (longB_t (l := l) (.inr (by omega)))
          have hbig' : (100000 : Int) < (m : Int) + (x.length : Int) := by omega
          clear hle
          go_wp2
          go_ret
          exact ⟨bool_ret (by rw [HE.out]), rfl⟩
        · have hbig' : ¬ (100000 : Int) < (m : Int) + (x.length : Int) := by omega
          clear hle
          go_wp2
          go_round
          case rel => exact ⟨k + 1, m + x.length, by omega, by go_num, by go_num, by omega, HN⟩
          case measure => simp [intOf]; omega
      · have HE := Lib.hid (longB_f (l := l) (by rw [hm.out, show k = l.length by omega, List.take_length] at hm1; omega))
        clear hm
        go_wp2
        go_ret
        exact ⟨bool_ret (by rw [HE.out]), rfl⟩

set_option maxHeartbeats 1000000 in
set_option maxRecDepth 100000 in
theorem lays_any (A : Option Addr) (cap : Nat) (l : List Int) (_ : l.length ≤ cap) (hcap : cap ≤ 140737488351232) (hi : I64 l) (w : World) (hr : Reads w w.heap.size A (ints l))
    (A2 : Option Addr) (cap2 : Nat) (s : List (List UInt8)) (hs : ∀ x ∈ s, x.length ≤ 140737488351232) (hr2 : Reads w w.heap.size A2 (strings s)) (hl : l.length ≤ 140737488351232) :
    Calls Try.prog 3 #[.slice A l.length cap, .slice A2 s.length cap2] w fun e w' => e = .returned (.bool true) ∧ Below w.heap.size w w' := by
  have cl := long_any A2 cap2 s w hs hr2
  have CL := Lib.hid cl
  by_cases h60 : 60 < l.length
  · have h60' : (60 : Int) < (l.length : Int) := by omega
    clear cl
    go_enter Try.func3, Try.ntmps3
    go_wp2_with (go_at_call 10; refine (awake_any _).mono ?_; rintro e w1 ⟨rfl, hb1⟩)
    go_ret
    exact ⟨rfl, hb1⟩
  · have h60' : decide ((60 : Int) < (l.length : Int)) = false := by simp; omega
    by_cases hlong : longB s = true
    · rw [hlong] at cl
      have CL := Lib.hid cl
      clear cl hlong
      go_enter Try.func3, Try.ntmps3
      go_wp2_with (first | (go_at_call 9; refine CL.out.mono ?_; rintro e w' ⟨rfl, rfl⟩) | (go_at_call 10; refine (awake_any _).mono ?_; rintro e w1 ⟨rfl, hb1⟩))
      go_ret
      exact ⟨rfl, hb1⟩
    · have hf : longB s = false := by simpa using hlong
      rw [hf] at cl
      have hs2 : ¬ (60 < s.length ∨ 100000 < total s) := of_decide_eq_false hf
      have hs60 : s.length ≤ 60 := by omega
      have hst : total s ≤ 100000 := by omega
      have CL := Lib.hid cl
      clear cl hlong hf hs2
      go_enter Try.func3, Try.ntmps3
      go_wp2_with (first | (go_at_call 9; refine CL.out.mono ?_; rintro e w' ⟨rfl, rfl⟩))
      go_loopw [5, 6] (fun s5 i wr => ∃ (k : Nat) (acc : List UInt8), k ≤ s.length ∧ i = .int .i64 k ∧ s5 = .string ⟨acc.toArray⟩ ∧ Hid (acc = Oct.encTs (s.take k)) ∧ Below w.heap.size w wr) (fun _ i _ => s.length - (intOf i).toNat)
      case atStart => exact ⟨0, [], Nat.zero_le _, rfl, rfl, rfl, Below.refl _ _⟩
      case round =>
        obtain ⟨k, acc, hk, rfl, rfl, hacc, hbw⟩ := hrel
        have hsw := hbw.size
        by_cases hlt : k < s.length
        · obtain ⟨x, hx⟩ : ∃ x, x = s[k] := ⟨_, rfl⟩
          obtain ⟨b, off, rfl, hbB, hc⟩ := hr2.at_ (k := k) (by simpa [strings] using hlt)
          have hcw : wr.cell? ⟨b, off + k, none⟩ = some (.string ⟨x.toArray⟩) := (hbw.cell (p := ⟨b, off + k, none⟩) hbB).trans (by rw [hc, hx]; simp [strings])
          have htk : total (s.take (k + 1)) ≤ total s := total_take s (k + 1)
          rw [take_one hlt, total_snoc, ← hx] at htk
          have hal : acc.length ≤ 9 * k + total (s.take k) := by have := encTs_le (s.take k); rw [hacc.out]; simpa [Nat.min_eq_left hk] using this
          have hsum := sum_two acc (Oct.encT x) (by have := Oct.encT_length x; omega)
          have HN : Hid (acc ++ Oct.encT x = Oct.encTs (s.take (k + 1))) := Lib.hid (by rw [hacc.out, hx, take_one hlt, Oct.encTs_snoc])
          have c := rtext_any x wr (by omega)
          have C := Lib.hid c
          clear hx hc hacc htk hal c
          go_wp2_with (go_at_call 11; refine C.out.mono ?_; rintro e w1 ⟨rfl, hb1⟩)
          go_roundw
          case rel => exact ⟨k + 1, _, by omega, by go_num, rfl, HN, hbw.trans (hb1.mono hsw)⟩
          case measure => simp [intOf]; omega
        · obtain rfl : acc = Oct.encTs s := by rw [hacc.out, show k = s.length by omega, List.take_length]
          have c1 := int_any A cap l wr (by omega) hi ((hr.below hbw).more hsw)
          have C1 := Lib.hid c1
          clear c1 hacc
          go_wp2_with fail
          refine C1.out.mono ?_
          rintro e w1 ⟨rfl, hb1⟩
          have hs1 := hb1.size
          have a1 := hbw.trans (hb1.mono hsw)
          have c2 := rints_any A cap l w1 (by omega) hi ((hr.below a1).more a1.size)
          have C2 := Lib.hid c2
          clear c2
          go_wp2_with fail
          refine C2.out.mono ?_
          rintro e w2 ⟨rfl, hb2⟩
          have a2 := a1.trans (hb2.mono a1.size)
          have c3 := text_any A2 cap2 s w2 (by omega) (by omega) ((hr2.below a2).more a2.size)
          have C3 := Lib.hid c3
          clear c3
          go_wp2_with fail
          refine C3.out.mono ?_
          rintro e w3 ⟨rfl, hb3⟩
          have a3 := a2.trans (hb3.mono a2.size)
          go_wp2_with (go_at_call 10; refine (awake_any _).mono ?_; rintro e w4 ⟨rfl, hb4⟩)
          go_ret
          exact ⟨rfl, a3.trans (hb4.mono a3.size)⟩

theorem lays_walk (w0 : World) (A : Option Addr) (cap : Nat) (l : List Int) (h1 : l.length ≤ cap) (hcap : cap ≤ 140737488351232) (hi : I64 l) (hr : Reads w0 w0.heap.size A (ints l))
    (A2 : Option Addr) (cap2 : Nat) (s : List (List UInt8)) (_ : s.length ≤ cap2) (_ : cap2 ≤ 140737488351232) (hs : ∀ x ∈ s, x.length ≤ 140737488351232) (hr2 : Reads w0 w0.heap.size A2 (strings s)) :
    Calls Try.prog 3 #[.slice A l.length cap, .slice A2 s.length cap2] w0 fun e w' => e = .returned (.bool true) ∧ Below w0.heap.size w0 w' :=
  lays_any A cap l h1 hcap hi w0 hr A2 cap2 s hs hr2 (by omega)

end Go.Proofs.Ytjkjomnnpfbiiaa
