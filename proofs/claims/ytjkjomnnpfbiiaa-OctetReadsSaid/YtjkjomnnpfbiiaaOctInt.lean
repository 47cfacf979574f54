/- octet.Int and octet.Text: the bytes of numbers, and of texts, one behind the other. -/
import Derived.Test.YtjkjomnnpfbiiaaOctLay
namespace Go.Proofs.Ytjkjomnnpfbiiaa
open Go.RowKit

theorem bld_new (w : World) : Bld w.heap.size w.heap.size [] (w.alloc (.cells #[.pointer none, .slice none 0 0] 59)) := Lib.hid (Lib.fresh_isBuilder _ _ w)

set_option maxHeartbeats 1000000 in
set_option maxRecDepth 100000 in
theorem int_any (A : Option Addr) (cap : Nat) (l : List Int) (w : World) (hl : l.length ≤ 1000000000000) (hi : I64 l) (hr : Reads w w.heap.size A (ints l)) :
    Calls Try.prog 12 #[.slice A l.length cap] w fun e w' => e = .returned (.string ⟨(Oct.encs l).toArray⟩) ∧ Below w.heap.size w w' := by
  have hnew := bld_new w
  have hb0 : Below w.heap.size w (w.alloc (.cells #[.pointer none, .slice none 0 0] 59)) := (Below.refl _ _).alloc (Nat.le_refl _) _
  go_enter Try.func12, Try.ntmps12
  go_wp2
  go_loopw [8] (fun i wr => ∃ k : Nat, k ≤ l.length ∧ i = .int .i64 k ∧ Bld w.heap.size w.heap.size (Lib.byteCells (Oct.encs (l.take k))) wr ∧ Below w.heap.size w wr) (fun i _ => l.length - (intOf i).toNat)
  case atStart => exact ⟨0, Nat.zero_le _, rfl, hnew, hb0⟩
  case round =>
    clear hnew hb0
    obtain ⟨k, hk, rfl, hbl, hbw⟩ := hrel
    have hsw := hbw.size
    have hal : (Lib.byteCells (Oct.encs (l.take k))).length ≤ 9 * k := by rw [Lib.byteCells_length]; have := Oct.encs_length_le (l.take k); simpa [Nat.min_eq_left hk] using this
    by_cases hlt : k < l.length
    · obtain ⟨x, hx⟩ : ∃ x, x = l[k] := ⟨_, rfl⟩
      obtain ⟨b, off, rfl, hbB, hc⟩ := hr.at_ (k := k) (by simpa [ints] using hlt)
      have hcw : wr.cell? ⟨b, off + k, none⟩ = some (.int .i64 x) := (hbw.cell (p := ⟨b, off + k, none⟩) hbB).trans (by rw [hc, hx]; simp [ints])
      have hxr := hi x (by rw [hx]; exact List.getElem_mem _)
      have HN := Lib.hid (show Lib.byteCells (Oct.encs (l.take k)) ++ Lib.byteCells (Oct.enc x) = Lib.byteCells (Oct.encs (l.take (k + 1))) by rw [hx, List.take_succ_eq_append_getElem hlt, Oct.encs_snoc, Lib.byteCells_append])
      have c := layInt_any w.heap.size w.heap.size _ x wr hxr.1 hxr.2 hbl (by omega) hsw
      have C := Lib.hid c
      clear hx hc hbl c
      go_wp2_with (go_at_call 27; refine C.out.mono ?_; rintro e w1 ⟨rfl, hbl1, hb1⟩)
      go_roundw
      case rel => exact ⟨k + 1, by omega, by go_num, by rw [HN.out] at hbl1; exact hbl1, hbw.trans hb1⟩
      case measure => simp [intOf]; omega
    · have hke : k = l.length := by omega
      have HB : Bld w.heap.size w.heap.size (Lib.byteCells (Oct.encs l)) wr := by rw [hke, List.take_length] at hbl; exact hbl
      clear hke hbl
      go_wp2_with (go_at_call 28; refine (Try.Builder_String_any w.heap.size w.heap.size (Oct.encs l) _ HB.out hsw).mono ?_; rintro e w1 ⟨rfl, hb1⟩)
      go_ret
      exact ⟨rfl, hbw.trans hb1⟩

def total (l : List (List UInt8)) : Nat := l.foldl (fun n s => n + s.length) 0
theorem total_snoc (l : List (List UInt8)) (s : List UInt8) : total (l ++ [s]) = total l + s.length := by simp [total]
theorem total_take (l : List (List UInt8)) (k : Nat) : total (l.take k) ≤ total l := by
  suffices h : ∀ r : List (List UInt8), ∀ p, total p ≤ total (p ++ r) by
    have := h (l.drop k) (l.take k)
    rwa [List.take_append_drop] at this
  intro r
  induction r with
  | nil => intro p; simp
  | cons s r ih =>
    intro p
    have := ih (p ++ [s])
    rw [total_snoc] at this
    have e : p ++ [s] ++ r = p ++ s :: r := by simp
    rw [e] at this
    omega
theorem encTs_le (l : List (List UInt8)) : (Oct.encTs l).length ≤ 9 * l.length + total l := by
  rw [← l.reverse_reverse]
  generalize l.reverse = r
  induction r with
  | nil => simp [Oct.encTs, total]
  | cons s r ih =>
    rw [List.reverse_cons, Oct.encTs_snoc, total_snoc]
    have := Oct.encT_length s
    simp only [List.length_append, List.length_cons, List.length_nil] at *
    omega

set_option maxHeartbeats 1000000 in
set_option maxRecDepth 100000 in
theorem text_any (A : Option Addr) (cap : Nat) (l : List (List UInt8)) (w : World) (hl : l.length ≤ 1000000000000) (ht : total l ≤ 100000000000000) (hr : Reads w w.heap.size A (strings l)) :
    Calls Try.prog 14 #[.slice A l.length cap] w fun e w' => e = .returned (.string ⟨(Oct.encTs l).toArray⟩) ∧ Below w.heap.size w w' := by
  have hnew := bld_new w
  have hb0 : Below w.heap.size w (w.alloc (.cells #[.pointer none, .slice none 0 0] 59)) := (Below.refl _ _).alloc (Nat.le_refl _) _
  go_enter Try.func14, Try.ntmps14
  go_wp2
  go_loopw [8] (fun i wr => ∃ k : Nat, k ≤ l.length ∧ i = .int .i64 k ∧ Bld w.heap.size w.heap.size (Lib.byteCells (Oct.encTs (l.take k))) wr ∧ Below w.heap.size w wr) (fun i _ => l.length - (intOf i).toNat)
  case atStart => exact ⟨0, Nat.zero_le _, rfl, hnew, hb0⟩
  case round =>
    clear hnew hb0
    obtain ⟨k, hk, rfl, hbl, hbw⟩ := hrel
    have hsw := hbw.size
    by_cases hlt : k < l.length
    · obtain ⟨x, hx⟩ : ∃ x, x = l[k] := ⟨_, rfl⟩
      have htk : total (l.take (k + 1)) ≤ total l := total_take l (k + 1)
      rw [List.take_succ_eq_append_getElem hlt, total_snoc, ← hx] at htk
      have hal : (Lib.byteCells (Oct.encTs (l.take k))).length ≤ 9 * k + total (l.take k) := by rw [Lib.byteCells_length]; have := encTs_le (l.take k); simpa [Nat.min_eq_left hk] using this
      obtain ⟨b, off, rfl, hbB, hc⟩ := hr.at_ (k := k) (by simpa [strings] using hlt)
      have hcw : wr.cell? ⟨b, off + k, none⟩ = some (.string ⟨x.toArray⟩) := (hbw.cell (p := ⟨b, off + k, none⟩) hbB).trans (by rw [hc, hx]; simp [strings])
      have HN := Lib.hid (show Lib.byteCells (Oct.encTs (l.take k)) ++ Lib.byteCells (Oct.enc x.length) ++ Lib.byteCells x = Lib.byteCells (Oct.encTs (l.take (k + 1))) by rw [List.take_succ_eq_append_getElem hlt, Oct.encTs_snoc, ← hx, Lib.byteCells_append, Oct.encT, Lib.byteCells_append, List.append_assoc])
      have c := layInt_any w.heap.size w.heap.size _ x.length wr (by omega) (by omega) hbl (by omega) hsw
      have C := Lib.hid c
      have hle : (Lib.byteCells (Oct.encTs (l.take k)) ++ Lib.byteCells (Oct.enc x.length)).length + x.length ≤ 140737488355328 := by
        have := Oct.enc_length_le x.length
        simp only [List.length_append, Lib.byteCells_length] at *
        omega
      have HL := Lib.hid hle
      clear hx hc hbl c htk hal hle
      go_wp2_with fail
      refine C.out.mono ?_
      rintro e w1 ⟨rfl, hbl1, hb1⟩
      have hs1 := hb1.size
      go_wp2_with fail
      refine (writeString_any w.heap.size w.heap.size _ ⟨x.toArray⟩ _ hbl1.out HL.out (by omega)).mono ?_
      rintro e w2 ⟨rfl, h2, hb2⟩
      have H2 : Bld w.heap.size w.heap.size (Lib.byteCells (Oct.encTs (l.take (k + 1)))) w2 := Lib.hid (by rw [← HN.out]; exact h2)
      clear h2 hbl1
      go_wp2
      go_roundw
      case rel => exact ⟨k + 1, by omega, by go_num, H2, (hbw.trans hb1).trans hb2⟩
      case measure => simp [intOf]; omega
    · have hke : k = l.length := by omega
      have HB : Bld w.heap.size w.heap.size (Lib.byteCells (Oct.encTs l)) wr := by rw [hke, List.take_length] at hbl; exact hbl
      clear hke hbl
      go_wp2_with (go_at_call 28; refine (Try.Builder_String_any w.heap.size w.heap.size (Oct.encTs l) _ HB.out hsw).mono ?_; rintro e w1 ⟨rfl, hb1⟩)
      go_ret
      exact ⟨rfl, hbw.trans hb1⟩

end Go.Proofs.Ytjkjomnnpfbiiaa
