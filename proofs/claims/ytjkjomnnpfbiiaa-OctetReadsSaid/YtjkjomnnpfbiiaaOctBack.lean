/- The law OctetBack, walked. -/
import Derived.Test.YtjkjomnnpfbiiaaOctOnly
import Derived.Test.YtjkjomnnpfbiiaaOctItems
namespace Go.Proofs.Ytjkjomnnpfbiiaa
open Go.RowKit
set_option linter.unusedVariables false

def itemRows (l : List (Int × List UInt8)) : List (List Value) := l.map fun x => [.int .i64 x.1, .string ⟨x.2.toArray⟩]
def encI (x : Int × List UInt8) : List UInt8 := Oct.enc x.1 ++ Oct.encT x.2
def encIs (l : List (Int × List UInt8)) : List UInt8 := l.flatMap encI
theorem encIs_snoc (l : List (Int × List UInt8)) (x : Int × List UInt8) : encIs (l ++ [x]) = encIs l ++ (Oct.enc x.1 ++ Oct.encT x.2) := by simp [encIs, encI]
def ItemOk (x : Int × List UInt8) : Prop := (-9223372036854775808 ≤ x.1 ∧ x.1 ≤ 9223372036854775807) ∧ x.2.length ≤ 140737488351232

theorem good_trans {w wr w2 : World} (h : Below w.heap.size w wr) (g : Good wr w2) : Good w w2 := Lib.hid (h.trans (Below.mono g.out h.size))
theorem encIs_le : ∀ (l : List (Int × List UInt8)), l.length ≤ 60 → (∀ x ∈ l, x.2.length ≤ 65536) → (encIs l).length ≤ 5000000 := by
  intro l hl hs
  suffices h : (encIs l).length ≤ l.length * 65560 by omega
  clear hl
  induction l with
  | nil => simp [encIs]
  | cons x r ih =>
    have h1 := ih (fun y hy => hs y (List.mem_cons_of_mem _ hy))
    have h2 := hs x List.mem_cons_self
    have h3 := Oct.enc_length_le x.1
    have h4 := Oct.encT_length x.2
    simp only [encIs, List.flatMap_cons, List.length_append, List.length_cons, encI] at *
    omega

theorem good_only {w W W' : World} {b : Nat} (g : Good w W) (h : W.grownBy W' (some b)) (hb : w.heap.size ≤ b) : Good w W' :=
  Lib.hid (Below.grown g.out h (Below.size g.out) (fun k hk => by cases hk; exact hb))
theorem back_int (w : World) (b1 n : _) (s : List UInt8) (r : List (Int × List UInt8)) (hn : -9223372036854775808 ≤ n ∧ n ≤ 9223372036854775807) (hb : w.heap.size ≤ b1) (hl : (encIs ((n, s) :: r)).length ≤ 5000000) : ∀ W,
    Hid (Rdr 66 b1 (encIs ((n, s) :: r)) false W) → Good w W →
    Calls Try.prog 16 #[.pointer (some ⟨b1, 0, none⟩)] W fun e w' => e = .returned (.int .i64 n) ∧ Hid (Rdr 66 b1 (Oct.encT s ++ encIs r) false w') ∧ Good w w' := fun W hR g => by
  refine (rdInt_any b1 _ false W (by omega) hR.out).mono ?_
  have e1 : encIs ((n, s) :: r) = Oct.enc n ++ (Oct.encT s ++ encIs r) := by simp [encIs, encI]
  rw [e1, oInt_enc n _ false hn.1 hn.2]
  rintro e w' ⟨rfl, h, hg⟩
  exact ⟨rfl, Lib.hid h, good_only g hg hb⟩
theorem back_text (w : World) (b1 : Nat) (n : Int) (s : List UInt8) (r : List (Int × List UInt8)) (hs : s.length ≤ 65536) (hb : w.heap.size ≤ b1) (hl : (encIs ((n, s) :: r)).length ≤ 5000000) : ∀ W,
    Hid (Rdr 66 b1 (Oct.encT s ++ encIs r) false W) → Good w W →
    Calls Try.prog 18 #[.pointer (some ⟨b1, 0, none⟩)] W fun e w' => e = .returned (.string ⟨s.toArray⟩) ∧ Hid (Rdr 66 b1 (encIs r) false w') ∧ Good w w' := fun W hR g => by
  have e1 : encIs ((n, s) :: r) = Oct.enc n ++ (Oct.encT s ++ encIs r) := by simp [encIs, encI]
  rw [e1, List.length_append] at hl
  refine (rtxt_any b1 _ false W (by omega) hR.out).mono ?_
  rw [oText_enc s _ false hs]
  rintro e w' ⟨rfl, h, hg⟩
  exact ⟨rfl, Lib.hid h, good_only g hg hb⟩

set_option maxHeartbeats 2000000 in
set_option maxRecDepth 100000 in
theorem back_any (w : World) (A : Option Addr) (cap : Nat) (l : List (Int × List UInt8)) (hl : l.length ≤ cap) (hcap : cap ≤ 140737488351232) (hok : ∀ x ∈ l, ItemOk x) (hr : ReadsK w w.heap.size A 2 (itemRows l)) :
    Calls Try.prog 5 #[.slice A l.length cap] w fun e w' => e = .returned (.bool true) ∧ Below w.heap.size w w' := by
  by_cases h60 : 60 < l.length
  · have h60' : (60 : Int) < (l.length : Int) := by omega
    go_enter Try.func5, Try.ntmps5
    go_wp2_with (go_at_call 10; refine (awake_any _).mono ?_; rintro e w1 ⟨rfl, hb1⟩)
    go_ret
    exact ⟨rfl, hb1⟩
  · have h60' : decide ((60 : Int) < (l.length : Int)) = false := by simp; omega
    go_enter Try.func5, Try.ntmps5
    go_wp2
    go_loopw [3, 4] (fun s2 i wr => ∃ (k : Nat) (acc : List UInt8), k ≤ l.length ∧ i = .int .i64 k ∧ s2 = .string ⟨acc.toArray⟩ ∧ Hid (acc = encIs (l.take k)) ∧ (∀ j, j < k → (l[j]?.map (·.2.length)).getD 0 ≤ 65536) ∧ Good w wr) (fun _ i _ => l.length - (intOf i).toNat)
    case atStart => exact ⟨0, [], Nat.zero_le _, rfl, rfl, rfl, fun j hj => absurd hj (by omega), Good.start w⟩
    case round =>
      obtain ⟨k, acc, hk, rfl, rfl, hacc, hsm, g⟩ := hrel
      have hbw : Below w.heap.size w wr := g.out
      have hsw := hbw.size
      by_cases hlt : k < l.length
      · obtain ⟨x, hx⟩ : ∃ x, x = l[k] := ⟨_, rfl⟩
        have hxm : x ∈ l := by rw [hx]; exact List.getElem_mem _
        obtain ⟨⟨hn0, hn1⟩, hsl⟩ := hok x hxm
        obtain ⟨n, s⟩ := x
        simp only at hn0 hn1 hsl
        obtain ⟨b, off, rfl, hbB, hc⟩ := hr.at_ (i := k) (by simpa [itemRows] using hlt)
        have hc0 : wr.cell? ⟨b, off + k * 2, none⟩ = some (.int .i64 n) := (hbw.cell (p := ⟨b, off + k * 2, none⟩) hbB).trans (by have := hc 0 (.int .i64 n) (by simp [itemRows, ← hx]); simpa using this)
        have hc1 : wr.cell? ⟨b, off + k * 2 + 1, none⟩ = some (.string ⟨s.toArray⟩) := (hbw.cell (p := ⟨b, off + k * 2 + 1, none⟩) hbB).trans (by rw [Nat.add_assoc]; exact hc 1 (.string ⟨s.toArray⟩) (by simp [itemRows, ← hx]))
        clear hc hxm
        by_cases hbig : 65536 < s.length
        · have hbig' : (65536 : Int) < (s.length : Int) := by omega
          go_wp2_with (go_at_call 10; refine (awake_any _).mono ?_; rintro e w1 ⟨rfl, hb1⟩)
          go_ret
          exact ⟨rfl, hbw.trans (hb1.mono hsw)⟩
        · have hbig' : ¬ (65536 : Int) < (s.length : Int) := by omega
          have hd65 : decide ((65536 : Int) < (s.length : Int)) = false := by simp; omega
          by_cases hacb : 1000000 < acc.length
          · have hacb' : (1000000 : Int) < (acc.length : Int) := by omega
            go_wp2_with (go_at_call 10; refine (awake_any _).mono ?_; rintro e w1 ⟨rfl, hb1⟩)
            go_ret
            exact ⟨rfl, hbw.trans (hb1.mono hsw)⟩
          · have hacb' : decide ((1000000 : Int) < (acc.length : Int)) = false := by simp; omega
            have I1 := Lib.hid (one_int wr n ⟨hn0, hn1⟩)
            have T1 := Lib.hid (one_text wr s (by omega))
            have G0 := Good.start wr
            have hsum1 := sum_two (Oct.enc n) (Oct.encT s) (by have := Oct.enc_length_le n; have := Oct.encT_length s; omega)
            have hsum2 := sum_two acc (Oct.enc n ++ Oct.encT s) (by have := Oct.enc_length_le n; have := Oct.encT_length s; simp only [List.length_append]; omega)
            have HN : Hid (acc ++ (Oct.enc n ++ Oct.encT s) = encIs (l.take (k + 1))) := Lib.hid (by rw [hacc.out, List.take_succ_eq_append_getElem hlt, encIs_snoc, ← hx])
            have HS : Hid (∀ j, j < k + 1 → (l[j]?.map (·.2.length)).getD 0 ≤ 65536) := Lib.hid (fun j hj => by
              by_cases hjk : j < k
              · exact hsm j hjk
              · obtain rfl : j = k := by omega
                rw [List.getElem?_eq_getElem hlt, ← hx]; simp; omega)
            have HW := Lib.hid hbw
            clear hx hok hacc hsm hbw
            go_wp2
            go_region_held3 (fun w' => w'.cell? ⟨b, off + k * 2, none⟩ = some (.int .i64 n) ∧ w'.cell? ⟨b, off + k * 2 + 1, none⟩ = some (.string ⟨s.toArray⟩))
              (first | exact ⟨Good.cell (by assumption) hc0, Good.cell (by assumption) hc1⟩ | go_keep)
              (first
                | ((with_reducible refine (I1.out _ _ ?_ ?_).mono ?_); (repeat (first | assumption | apply Good.drew | apply Good.alloc)); (first | assumption | (focus (simp; done)) | (focus (refine Good.cell (by assumption) ?_; simp; done))); rintro e w1 ⟨rfl, g1, k1⟩)
                | ((with_reducible refine (T1.out _ _ ?_ ?_).mono ?_); (repeat (first | assumption | apply Good.drew | apply Good.alloc)); (first | assumption | (focus (simp; done)) | (focus (refine Good.cell (by assumption) ?_; simp; done))); rintro e w2 ⟨rfl, g2, k2⟩))
            all_goals
              go_wp2
              go_roundw
              case rel => exact ⟨k + 1, _, by omega, by go_num, rfl, HN, HS.out, good_trans HW.out g2⟩
              case measure => simp [intOf]; omega
      · obtain rfl : acc = encIs l := by rw [hacc.out, show k = l.length by omega, List.take_length]
        have hsm' : Hid (∀ x ∈ l, x.2.length ≤ 65536) := Lib.hid (fun x hx => by
          obtain ⟨j, hj, rfl⟩ := List.getElem_of_mem hx
          have := hsm j (by omega)
          rw [List.getElem?_eq_getElem hj] at this
          simpa using this)
        have hlen : (encIs l).length ≤ 5000000 := encIs_le l (by omega) hsm'.out
        have HO := Lib.hid hok
        clear hacc hsm hok
        go_wp2_with (go_at_call 15; refine (of_any (encIs l) _ (by omega)).mono ?_; rintro e w1 ⟨b1, rfl, h1, hs1, hb1⟩)
        have R1 := Lib.hid h1
        have hb1w : Hid (Below w.heap.size w w1) := Lib.hid (hbw.trans (hb1.mono hsw))
        clear h1
        have hbs : w.heap.size ≤ b1 := by omega
        go_loopw [6] (fun i wq => ∃ j : Nat, j ≤ l.length ∧ i = .int .i64 j ∧ Hid (Rdr 66 b1 (encIs (l.drop j)) false wq) ∧ Good w wq) (fun i _ => l.length - (intOf i).toNat)
        case atStart => exact ⟨0, Nat.zero_le _, rfl, R1, hb1w⟩
        case round =>
          clear R1 hb1w hb1 hbw g hsw
          obtain ⟨j, hj, rfl, hrd, g⟩ := hrel
          by_cases hlt : j < l.length
          · obtain ⟨x, hx⟩ : ∃ x, x = l[j] := ⟨_, rfl⟩
            have hxm : x ∈ l := by rw [hx]; exact List.getElem_mem _
            have hsl := hsm'.out x hxm
            obtain ⟨⟨hn0, hn1⟩, _⟩ := HO.out x hxm
            obtain ⟨n, s⟩ := x
            simp only at hn0 hn1 hsl
            obtain ⟨b, off, rfl, hbB, hc⟩ := hr.at_ (i := j) (by simpa [itemRows] using hlt)
            have hc0 : w.cell? ⟨b, off + j * 2, none⟩ = some (.int .i64 n) := by have := hc 0 (.int .i64 n) (by simp [itemRows, ← hx]); simpa using this
            have hc1 : w.cell? ⟨b, off + j * 2 + 1, none⟩ = some (.string ⟨s.toArray⟩) := by rw [Nat.add_assoc]; exact hc 1 (.string ⟨s.toArray⟩) (by simp [itemRows, ← hx])
            have hd0 := g.cell hc0
            have hd1 := g.cell hc1
            have hlen2 : (encIs (l.drop j)).length ≤ 5000000 := encIs_le _ (by simp; omega) (fun y hy => hsm'.out y (List.mem_of_mem_drop hy))
            rw [List.drop_eq_getElem_cons hlt, ← hx] at hrd hlen2
            have C1 := Lib.hid (back_int w b1 n s (l.drop (j + 1)) ⟨hn0, hn1⟩ (by omega) hlen2)
            have C2 := Lib.hid (back_text w b1 n s (l.drop (j + 1)) (by omega) (by omega) hlen2)
            have R0 : Hid (Rdr 66 b1 (encIs ((n, s) :: l.drop (j + 1))) false wr.drew) := hrd
            have G0 : Good w wr.drew := g.drew
            clear hc hx hxm hlen2 hrd hlen
            go_wp2
            go_region_held3 (fun w' => w'.cell? ⟨b, off + j * 2, none⟩ = some (.int .i64 n) ∧ w'.cell? ⟨b, off + j * 2 + 1, none⟩ = some (.string ⟨s.toArray⟩))
              (first | exact ⟨Good.cell (by assumption) hc0, Good.cell (by assumption) hc1⟩ | go_keep)
              (first
                | ((with_reducible refine (C1.out _ ?_ ?_).mono ?_); assumption; assumption; rintro e w2 ⟨rfl, r2, g2⟩)
                | ((with_reducible refine (C2.out _ ?_ ?_).mono ?_); assumption; assumption; rintro e w3 ⟨rfl, r3, g3⟩))
            all_goals
              go_wp2
              go_roundw
              case rel => exact ⟨j + 1, by omega, by go_num, r3, g3⟩
              case measure => simp [intOf]; omega
          · have hje : l.drop j = [] := List.drop_eq_nil_of_le (by omega)
            rw [hje] at hrd
            have R : Hid (Rdr 66 b1 [] false wr) := hrd
            clear hje hrd
            go_wp2_with fail
            refine (left_any b1 _ _ _ R.out).mono ?_
            rintro e w' ⟨rfl, rfl⟩
            go_wp2_with fail
            refine (done_any b1 _ _ _ R.out).mono ?_
            rintro e w' ⟨rfl, rfl⟩
            have hod : oDone [] false = 0 := rfl
            rw [hod]
            go_wp2_with (go_at_call 10; refine (good_awake w _ g).mono ?_; rintro e w7 ⟨rfl, g7⟩)
            go_ret
            exact ⟨rfl, g7.out⟩

end Go.Proofs.Ytjkjomnnpfbiiaa
