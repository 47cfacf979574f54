/- The law OctetReads, walked. -/
import Derived.Test.YtjkjomnnpfbiiaaOctBack
import Derived.Test.YtjkjomnnpfbiiaaOctRd5
namespace Go.Proofs.Ytjkjomnnpfbiiaa
open Go.RowKit
set_option linter.unusedVariables false

/-- the two readers beside one another: octet's at b1, the document's at b2 -/
def Pair (w : World) (b1 b2 : Nat) (s1 : List UInt8) (x1 : Bool) (s2 : List UInt8) (x2 : Bool) (W : World) : Prop :=
  Hid (Rdr 66 b1 s1 x1 W ∧ Rdr 36 b2 s2 x2 W ∧ Good w W ∧ w.heap.size ≤ b1 ∧ w.heap.size ≤ b2 ∧ b1 ≠ b2)
theorem Pair.first {w W W' : World} {b1 b2 : Nat} {s1 s2 s1' : List UInt8} {x1 x2 x1' : Bool} (h : Pair w b1 b2 s1 x1 s2 x2 W) (hr : Rdr 66 b1 s1' x1' W') (hg : W.grownBy W' (some b1)) : Pair w b1 b2 s1' x1' s2 x2 W' := by
  obtain ⟨h1, h2, g, l1, l2, hne⟩ := (Hid.out h : _ ∧ _)
  exact Lib.hid ⟨hr, h2.only hg (fun e => hne (Option.some.inj e).symm), good_only g hg l1, l1, l2, hne⟩
theorem Pair.second {w W W' : World} {b1 b2 : Nat} {s1 s2 s2' : List UInt8} {x1 x2 x2' : Bool} (h : Pair w b1 b2 s1 x1 s2 x2 W) (hr : Rdr 36 b2 s2' x2' W') (hg : W.grownBy W' (some b2)) : Pair w b1 b2 s1 x1 s2' x2' W' := by
  obtain ⟨h1, h2, g, l1, l2, hne⟩ := (Hid.out h : _ ∧ _)
  exact Lib.hid ⟨h1.only hg (fun e => hne (Option.some.inj e)), hr, good_only g hg l2, l1, l2, hne⟩
theorem Pair.r1 {w W : World} {b1 b2 : Nat} {s1 s2 : List UInt8} {x1 x2 : Bool} (h : Pair w b1 b2 s1 x1 s2 x2 W) : Rdr 66 b1 s1 x1 W := (Hid.out h : _ ∧ _).1
theorem Pair.r2 {w W : World} {b1 b2 : Nat} {s1 s2 : List UInt8} {x1 x2 : Bool} (h : Pair w b1 b2 s1 x1 s2 x2 W) : Rdr 36 b2 s2 x2 W := (Hid.out h : _ ∧ _).2.1
theorem Pair.good {w W : World} {b1 b2 : Nat} {s1 s2 : List UInt8} {x1 x2 : Bool} (h : Pair w b1 b2 s1 x1 s2 x2 W) : Good w W := (Hid.out h : _ ∧ _).2.2.1
theorem Pair.drewN {w W : World} {b1 b2 : Nat} {s1 s2 : List UInt8} {x1 x2 : Bool} (h : Pair w b1 b2 s1 x1 s2 x2 W) (n : Nat) : Pair w b1 b2 s1 x1 s2 x2 (W.drewN n) := by
  obtain ⟨h1, h2, g, l⟩ := (Hid.out h : _ ∧ _)
  exact Lib.hid ⟨h1, h2, g.drewN n, l⟩
theorem Pair.drew {w W : World} {b1 b2 : Nat} {s1 s2 : List UInt8} {x1 x2 : Bool} (h : Pair w b1 b2 s1 x1 s2 x2 W) : Pair w b1 b2 s1 x1 s2 x2 W.drew := h.drewN 1

section
variable {w W : World} {b1 b2 : Nat} {s1 s2 : List UInt8} {x1 x2 : Bool}
theorem p_int1 (h : Pair w b1 b2 s1 x1 s2 x2 W) (hl : s1.length ≤ 1000000000) : Calls Try.prog 16 #[.pointer (some ⟨b1, 0, none⟩)] W fun e w' => e = .returned (.int .i64 (oInt s1 x1).n) ∧ Pair w b1 b2 (oInt s1 x1).s (oInt s1 x1).bad s2 x2 w' :=
  (rdInt_any b1 s1 x1 W (by omega) h.r1).mono fun _ _ k => ⟨k.1, h.first k.2.1 k.2.2⟩
theorem p_int2 (h : Pair w b1 b2 s1 x1 s2 x2 W) (hl : s2.length ≤ 1000000000) (hi : Inv s2 x2) : Calls Try.prog 17 #[.pointer (some ⟨b2, 0, none⟩)] W fun e w' => e = .returned (.int .i64 (oInt s2 x2).n) ∧ Pair w b1 b2 s1 x1 (oInt s2 x2).s (oInt s2 x2).bad w' :=
  (rrInt_any b2 s2 x2 W hl hi h.r2).mono fun _ _ k => ⟨k.1, h.second k.2.1 k.2.2⟩
theorem p_text1 (h : Pair w b1 b2 s1 x1 s2 x2 W) (hl : s1.length ≤ 1000000000) : Calls Try.prog 18 #[.pointer (some ⟨b1, 0, none⟩)] W fun e w' => e = .returned (.string ⟨(oText s1 x1).t.toArray⟩) ∧ Pair w b1 b2 (oText s1 x1).s (oText s1 x1).bad s2 x2 w' :=
  (rtxt_any b1 s1 x1 W (by omega) h.r1).mono fun _ _ k => ⟨k.1, h.first k.2.1 k.2.2⟩
theorem p_text2 (h : Pair w b1 b2 s1 x1 s2 x2 W) (hl : s2.length ≤ 1000000000) (hi : Inv s2 x2) : Calls Try.prog 19 #[.pointer (some ⟨b2, 0, none⟩)] W fun e w' => e = .returned (.string ⟨(oText s2 x2).t.toArray⟩) ∧ Pair w b1 b2 s1 x1 (oText s2 x2).s (oText s2 x2).bad w' :=
  (rrText_any b2 s2 x2 W hl hi h.r2).mono fun _ _ k => ⟨k.1, h.second k.2.1 k.2.2⟩
theorem p_count1 (most : Int) (h : Pair w b1 b2 s1 x1 s2 x2 W) (hl : s1.length ≤ 1000000000) : Calls Try.prog 20 #[.pointer (some ⟨b1, 0, none⟩), .int .i64 most] W fun e w' => e = .returned (.int .i64 (oCount s1 x1 most).n) ∧ Pair w b1 b2 (oCount s1 x1 most).s (oCount s1 x1 most).bad s2 x2 w' :=
  (count_any b1 s1 x1 most W (by omega) h.r1).mono fun _ _ k => ⟨k.1, h.first k.2.1 k.2.2⟩
theorem p_count2 (most : Int) (h : Pair w b1 b2 s1 x1 s2 x2 W) (hl : s2.length ≤ 1000000000) (hi : Inv s2 x2) : Calls Try.prog 21 #[.pointer (some ⟨b2, 0, none⟩), .int .i64 most] W fun e w' => e = .returned (.int .i64 (oCount s2 x2 most).n) ∧ Pair w b1 b2 s1 x1 (oCount s2 x2 most).s (oCount s2 x2 most).bad w' :=
  (rrCount_any b2 s2 x2 most W hl hi h.r2).mono fun _ _ k => ⟨k.1, h.second k.2.1 k.2.2⟩
theorem q_left (h : Pair w b1 b2 s1 x1 s2 x2 W) (n : Nat) : Calls Try.prog 22 #[.pointer (some ⟨b1, 0, none⟩)] (W.drewN n) fun e w' => e = .returned (.int .i64 s1.length) ∧ ∃ m, w' = W.drewN m :=
  (left_any b1 s1 x1 (W.drewN n) (h.drewN n).r1).mono fun _ _ k => ⟨k.1, n, k.2.symm⟩
theorem q_done1 (h : Pair w b1 b2 s1 x1 s2 x2 W) (n : Nat) : Calls Try.prog 23 #[.pointer (some ⟨b1, 0, none⟩)] (W.drewN n) fun e w' => e = .returned (.int .i64 (oDone s1 x1)) ∧ ∃ m, w' = W.drewN m :=
  (done_any b1 s1 x1 (W.drewN n) (h.drewN n).r1).mono fun _ _ k => ⟨k.1, n, k.2.symm⟩
theorem q_done2 (h : Pair w b1 b2 s1 x1 s2 x2 W) (n : Nat) : Calls Try.prog 24 #[.pointer (some ⟨b2, 0, none⟩)] (W.drewN n) fun e w' => e = .returned (.int .i64 (oDone s2 x2)) ∧ ∃ m, w' = W.drewN m :=
  (rrDone_any b2 s2 x2 (W.drewN n) (h.drewN n).r2).mono fun _ _ k => ⟨k.1, n, k.2.symm⟩
end
theorem oDone_bd (s : List UInt8) (x : Bool) : 0 ≤ oDone s x ∧ oDone s x ≤ 2 := by unfold oDone; split <;> omega

def askRows (l : List (Int × Int)) : List (List Value) := l.map fun x => [.int .i64 x.1, .int .i64 x.2]
theorem oText_len (s : List UInt8) (bad : Bool) : (oText s bad).s.length ≤ s.length := by
  have := oCount_len s bad 65536
  unfold oText
  split
  · simp
  · simp; omega

set_option maxHeartbeats 4000000 in
set_option maxRecDepth 100000 in
theorem reads_any (w : World) (s : List UInt8) (hs : s.length ≤ 140737488351232) (A : Option Addr) (cap : Nat) (l : List (Int × Int)) (hl : l.length ≤ cap) (hcap : cap ≤ 140737488351232) (hok : ∀ x ∈ l, (-9223372036854775808 ≤ x.1 ∧ x.1 ≤ 9223372036854775807) ∧ -9223372036854775808 ≤ x.2 ∧ x.2 ≤ 9223372036854775807) (hr : ReadsK w w.heap.size A 2 (askRows l)) :
    Calls Try.prog 4 #[.string ⟨s.toArray⟩, .slice A l.length cap] w fun e w' => e = .returned (.bool true) ∧ Below w.heap.size w w' := by
  by_cases h1 : 100000 < s.length
  · have d1 : decide ((100000 : Int) < (s.length : Int)) = true := by simp; omega
    go_enter Try.func4, Try.ntmps4
    go_wp2_with (go_at_call 10; refine (awake_any _).mono ?_; rintro e w1 ⟨rfl, hb1⟩)
    go_ret
    exact ⟨rfl, hb1⟩
  · have d1 : decide ((100000 : Int) < (s.length : Int)) = false := by simp; omega
    by_cases h2 : 60 < l.length
    · have d2 : decide ((60 : Int) < (l.length : Int)) = true := by simp; omega
      go_enter Try.func4, Try.ntmps4
      go_wp2_with (go_at_call 10; refine (awake_any _).mono ?_; rintro e w1 ⟨rfl, hb1⟩)
      go_ret
      exact ⟨rfl, hb1⟩
    · have d2 : decide ((60 : Int) < (l.length : Int)) = false := by simp; omega
      go_enter Try.func4, Try.ntmps4
      go_wp2_with (go_at_call 15; refine (of_any s _ (by omega)).mono ?_; rintro e w1 ⟨b1, rfl, r1, hs1, hb1⟩)
      have P0 : Pair w b1 w1.heap.size s false s false (w1.alloc (.cells #[.string ⟨s.toArray⟩, .bool false] 36)) :=
        Lib.hid ⟨r1.alloc _, heap_alloc_new w1 _, Lib.hid (hb1.alloc hb1.size _), hs1, hb1.size, by have := r1.lt; omega⟩
      clear r1
      go_loopw [7] (fun i wr => ∃ (k : Nat) (s' : List UInt8) (x : Bool), k ≤ l.length ∧ i = .int .i64 k ∧ Pair w b1 w1.heap.size s' x s' x wr ∧ s'.length ≤ 100000 ∧ Hid (Inv s' x)) (fun i _ => l.length - (intOf i).toNat)
      case atStart => exact ⟨0, s, false, Nat.zero_le _, rfl, P0, by omega, Lib.hid (fun h => by cases h)⟩
      case round =>
        clear P0 hb1
        obtain ⟨k, s', x, hk, rfl, P, hsl, hi⟩ := hrel
        by_cases hlt : k < l.length
        · obtain ⟨y, hy⟩ : ∃ y, y = l[k] := ⟨_, rfl⟩
          obtain ⟨⟨ka, kb⟩, ma, mb⟩ := hok y (by rw [hy]; exact List.getElem_mem _)
          obtain ⟨kind, most⟩ := y
          simp only at ka kb ma mb
          obtain ⟨b, off, rfl, hbB, hc⟩ := hr.at_ (i := k) (by simpa [askRows] using hlt)
          have hc0 : w.cell? ⟨b, off + k * 2, none⟩ = some (.int .i64 kind) := by have := hc 0 (.int .i64 kind) (by simp [askRows, ← hy]); simpa using this
          have hc1 : w.cell? ⟨b, off + k * 2 + 1, none⟩ = some (.int .i64 most) := by rw [Nat.add_assoc]; exact hc 1 (.int .i64 most) (by simp [askRows, ← hy])
          have hd0 := P.good.cell hc0
          have hd1 := P.good.cell hc1
          have hil := oInt_len s' x
          have htl := oText_len s' x
          have hcl := oCount_len s' x most
          clear hc hy
          by_cases h0 : kind = 0
          · subst h0
            go_wp2_with fail
            refine (p_int1 P (by omega)).mono ?_
            rintro e w2 ⟨rfl, P2⟩
            go_wp2_with fail
            refine (p_int2 P2 (by omega) hi.out).mono ?_
            rintro e w3 ⟨rfl, P3⟩
            have hI := Lib.hid (hi.out.oInt)
            generalize oInt s' x = R at *
            obtain ⟨n3, s3, x3⟩ := R
            simp only at P3 hI hil
            have cS := P3.r2.c0
            have hdb := oDone_bd s3 x3
            clear P P2 hd0 hd1 hc0 hc1 hi
            go_wp2
            go_quiet ((first | (go_at_call 22; exact q_left P3 _) | (go_at_call 23; exact q_done1 P3 _) | (go_at_call 24; exact q_done2 P3 _)))
            go_wp2
            go_roundw
            case rel => exact ⟨k + 1, s3, x3, by omega, by go_num, P3.drewN _, by omega, hI⟩
            case measure => simp [intOf]; omega
          · have k0 : (kind == 0) = false := by rw [beq_eq_false_iff_ne]; exact h0
            by_cases h1' : kind = 1
            · subst h1'
              go_wp2_with fail
              refine (p_text1 P (by omega)).mono ?_
              rintro e w2 ⟨rfl, P2⟩
              go_wp2_with fail
              refine (p_text2 P2 (by omega) hi.out).mono ?_
              rintro e w3 ⟨rfl, P3⟩
              have hI := Lib.hid (hi.out.oText)
              generalize oText s' x = R at *
              obtain ⟨n3, s3, x3⟩ := R
              simp only at P3 hI htl
              have cS := P3.r2.c0
              have hdb := oDone_bd s3 x3
              clear P P2 hd0 hd1 hc0 hc1 hi
              go_wp2
              go_quiet ((first | (go_at_call 22; exact q_left P3 _) | (go_at_call 23; exact q_done1 P3 _) | (go_at_call 24; exact q_done2 P3 _)))
              go_wp2
              go_roundw
              case rel => exact ⟨k + 1, s3, x3, by omega, by go_num, P3.drewN _, by omega, hI⟩
              case measure => simp [intOf]; omega
            · have k1 : (kind == 1) = false := by rw [beq_eq_false_iff_ne]; exact h1'
              have Pd := P.drew
              have HI := Lib.hid hi.out
              have C1 := Lib.hid (p_count1 most Pd (by omega))
              have C2 := Lib.hid (fun (W : World) (P2 : Pair w b1 w1.heap.size (oCount s' x most).s (oCount s' x most).bad s' x W) => p_count2 most P2 (by omega) hi.out)
              go_wp2_with fail
              go_region_held3 (fun w' => w'.cell? ⟨b, off + k * 2 + 1, none⟩ = some (.int .i64 most))
                (first | exact Good.cell (Pair.good (by assumption)) hc1 | go_keep)
                (first
                  | ((with_reducible refine C1.out.mono ?_); rintro e w2 ⟨rfl, P2⟩)
                  | ((with_reducible refine (C2.out _ ?_).mono ?_); assumption; rintro e w3 ⟨rfl, P3⟩))
              have hI := Lib.hid (hi.out.oCount most)
              clear C1 C2 P2 Pd HI
              generalize oCount s' x most = R at *
              obtain ⟨n3, s3, x3⟩ := R
              simp only at P3 hI hcl
              have cS := P3.r2.c0
              have hdb := oDone_bd s3 x3
              clear P hd0 hd1 hc0 hc1 hi
              go_wp2
              go_quiet ((first | (go_at_call 22; exact q_left P3 _) | (go_at_call 23; exact q_done1 P3 _) | (go_at_call 24; exact q_done2 P3 _)))
              go_wp2
              go_roundw
              case rel => exact ⟨k + 1, s3, x3, by omega, by go_num, P3.drewN _, by omega, hI⟩
              case measure => simp [intOf]; omega
        · have g := P.good
          clear P
          go_wp2_with (go_at_call 10; refine (good_awake w _ g).mono ?_; rintro e w7 ⟨rfl, g7⟩)
          go_ret
          exact ⟨rfl, g7.out⟩

end Go.Proofs.Ytjkjomnnpfbiiaa
