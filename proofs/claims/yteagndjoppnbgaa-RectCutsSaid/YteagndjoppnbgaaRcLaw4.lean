/- The law's walk: what rectangles have in common. -/
import Derived.Test.YteagndjoppnbgaaRcAwake
namespace Go.Proofs.Yteagndjoppnbgaa
open Go.RowKit

namespace Rc
def cutL : List (Int × Int × Int × Int) → R
  | [] => ⟨0, 0, 0, 0⟩
  | x :: l => cut x l
theorem has_cutL (x y : Int) (l : List (Int × Int × Int × Int)) : hasR (cutL l).a (cutL l).b (cutL l).c (cutL l).d x y = (decide (0 < l.length) && l.all (hasQ x y)) := by
  cases l with
  | nil =>
    show hasR 0 0 0 0 x y = _
    unfold hasR
    simp only [List.length_nil, Nat.lt_irrefl, decide_false, Bool.false_and, decide_eq_false_iff_not]
    omega
  | cons r l =>
    rw [show cutL (r :: l) = cut r l from rfl, has_cut]
    simp
end Rc
theorem cutL_any (A : Option Addr) (cap : Nat) (l : List (Int × Int × Int × Int)) (w : World) (B : Nat) (hB : B ≤ w.heap.size) (hl : l.length ≤ cap) (hcap : cap ≤ 1000000000000000) (hr : ReadsK w B A 4 (l.map rectRow)) (hi : ∀ y ∈ l, I y.1 ∧ I y.2.1 ∧ I y.2.2.1 ∧ I y.2.2.2) :
    Calls Try.prog 15 #[.slice A l.length cap] w fun e w' => e = .returned (.agg #[.int .i64 (Rc.cutL l).a, .int .i64 (Rc.cutL l).b, .int .i64 (Rc.cutL l).c, .int .i64 (Rc.cutL l).d]) ∧ Below w.heap.size w w' := by
  cases l with
  | nil => exact cut_none A cap w
  | cons x l => exact cut_some A cap x l w B hB hl hcap hr hi _ _ _ _ rfl
theorem rcutL_any (A : Option Addr) (cap : Nat) (l : List (Int × Int × Int × Int)) (w : World) (B : Nat) (hB : B ≤ w.heap.size) (hl : l.length ≤ 1000000000000000) (hr : ReadsK w B A 4 (l.map rectRow)) (hi : ∀ y ∈ l, I y.1 ∧ I y.2.1 ∧ I y.2.2.1 ∧ I y.2.2.2) :
    Calls Try.prog 16 #[.slice A l.length cap] w fun e w' => e = .returned (.agg #[.int .i64 (Rc.cutL l).a, .int .i64 (Rc.cutL l).b, .int .i64 (Rc.cutL l).c, .int .i64 (Rc.cutL l).d]) ∧ Below w.heap.size w w' := by
  cases l with
  | nil => exact rcut_none A cap w
  | cons x l => exact rcut_some A cap x l w B hB (by simp at hl; omega) hr hi _ _ _ _ rfl
theorem cutL_in (l : List (Int × Int × Int × Int)) : I (Rc.cutL l).a ∧ I (Rc.cutL l).b ∧ I (Rc.cutL l).c ∧ I (Rc.cutL l).d := by
  cases l with
  | nil => exact ⟨by decide, by decide, by decide, by decide⟩
  | cons x l => exact cut_in x l

set_option maxHeartbeats 2000000 in
set_option maxRecDepth 100000 in
theorem law_cuts (w : World) (A : Option Addr) (cap : Nat) (l : List (Int × Int × Int × Int)) (hl : l.length ≤ cap) (hcap : cap ≤ 140737488351232) (hi : ∀ x ∈ l, Fits x.1 ∧ Fits x.2.1 ∧ Fits x.2.2.1 ∧ Fits x.2.2.2) (hr : ReadsK w w.heap.size A 4 (l.map rectRow)) (x : Int) (hx : -9223372036854775808 ≤ x ∧ x ≤ 9223372036854775807) (y : Int) (hy : -9223372036854775808 ≤ y ∧ y ≤ 9223372036854775807) :
    Calls Try.prog 5 #[.slice A l.length cap, .int .i64 x, .int .i64 y] w fun e w' => e = .returned (.bool true) ∧ Below w.heap.size w w' := by
  by_cases hbig : 1000 < l.length
  · have t1 : decide (1000 < l.length) = true := by simpa using hbig
    clear hi hr
    go_enter Try.func5, Try.ntmps5
    go_wp2_with fail
    refine (awake_hid.out _).mono ?_
    rintro e w1 ⟨rfl, b1⟩
    go_wp2
    go_ret
    exact ⟨rfl, b1⟩
  · have M := Lib.hid (cutL_any A cap l w w.heap.size (Nat.le_refl _) hl (by omega) hr hi)
    have R := Lib.hid (fun W (hB : w.heap.size ≤ W.heap.size) (hW : ReadsK W w.heap.size A 4 (l.map rectRow)) => rcutL_any A cap l W w.heap.size hB (by omega) hW hi)
    have S := Lib.hid (fun W => rhas_any (Rc.cutL l).a (Rc.cutL l).b (Rc.cutL l).c (Rc.cutL l).d x y W (cutL_in l).1 (cutL_in l).2.1 (cutL_in l).2.2.1 (cutL_in l).2.2.2 hx hy)
    have E := Rc.has_cutL x y l
    have HI := Lib.hid hi
    have HX := Lib.hid hx
    have HY := Lib.hid hy
    generalize Rc.hasR (Rc.cutL l).a (Rc.cutL l).b (Rc.cutL l).c (Rc.cutL l).d x y = B at *
    generalize Rc.cutL l = c at *
    obtain ⟨c0, c1, c2, c3⟩ := c
    simp only at M R S
    have HE := Lib.hid E
    have HR := Lib.hid hr
    clear E hi hr hx hy
    have t0 : decide (1000 < l.length) = false := by simpa using hbig
    obtain ⟨z, hz⟩ : ∃ z, decide (0 < l.length) = z := ⟨_, rfl⟩
    rw [hz] at HE
    go_enter Try.func5, Try.ntmps5
    go_wp2_with fail
    refine M.out.mono ?_
    rintro e w1 ⟨rfl, b1⟩
    clear M
    have b2 := Lib.hid (b1.alloc b1.size (.cells #[.int .i64 c0, .int .i64 c1, .int .i64 c2, .int .i64 c3] 23))
    go_wp2
    go_loopw [8, 9] (fun s i wr => ∃ (k : Nat) (b : Bool), k ≤ l.length ∧ i = .int .i64 k ∧ s = .bool b ∧ b = (z && (l.take k).all (Rc.hasQ x y)) ∧ Below w.heap.size w wr ∧ w1.heap.size < wr.heap.size ∧ wr.heap[w1.heap.size]? = some (.cells #[.int .i64 c0, .int .i64 c1, .int .i64 c2, .int .i64 c3] 23 (0, 0))) (fun _ i _ => l.length - (intOf i).toNat)
    case atStart => exact ⟨0, z, Nat.zero_le _, rfl, rfl, by simp, b2.out, by rw [size1]; omega, at1 _ _⟩
    case round =>
      obtain ⟨k, b, hk, rfl, rfl, hb, hbel, htop, hcell⟩ := hrel
      have HB := Lib.hid hb
      have HC := Lib.hid hcell
      clear hb hcell
      by_cases hlt : k < l.length
      · cases b with
        | false =>
          go_wp2
          go_roundw
          case rel =>
            refine ⟨k + 1, false, by omega, by go_num, rfl, ?_, hbel, htop, HC.out⟩
            have := HB.out
            rw [List.take_succ_eq_append_getElem hlt, List.all_append, ← Bool.and_assoc, ← this]
            rfl
          case measure => simp [intOf]; omega
        | true =>
          obtain ⟨bb, off, rfl, hbw, hc⟩ := cells4 HR.out (by omega)
          obtain ⟨y0, y1, y2, y3⟩ := hc k hlt
          clear hc
          obtain ⟨r, hr⟩ : ∃ r, r = l[k] := ⟨_, rfl⟩
          rw [← hr] at y0 y1 y2 y3
          have k0 := (hbel.cell (p := ⟨bb, off + k * 4, none⟩) hbw).trans y0
          have k1 := (hbel.cell (p := ⟨bb, off + k * 4 + 1, none⟩) hbw).trans y1
          have k2 := (hbel.cell (p := ⟨bb, off + k * 4 + 2, none⟩) hbw).trans y2
          have k3 := (hbel.cell (p := ⟨bb, off + k * 4 + 3, none⟩) hbw).trans y3
          have H := Lib.hid (fun W => show Calls Try.prog 11 #[.agg #[.int .i64 r.1, .int .i64 r.2.1, .int .i64 r.2.2.1, .int .i64 r.2.2.2], .int .i64 x, .int .i64 y] W fun e w' => (e = .returned (.bool (Rc.hasQ x y r)) ∧ Below W.heap.size W w') from rhas_any r.1 r.2.1 r.2.2.1 r.2.2.2 x y W (HI.out r (by rw [hr]; exact List.getElem_mem _)).1 (HI.out r (by rw [hr]; exact List.getElem_mem _)).2.1 (HI.out r (by rw [hr]; exact List.getElem_mem _)).2.2.1 (HI.out r (by rw [hr]; exact List.getElem_mem _)).2.2.2 HX.out HY.out)
          have HN := Lib.hid (show Rc.hasQ x y r = (z && (l.take (k + 1)).all (Rc.hasQ x y)) by
            have := HB.out
            rw [List.take_succ_eq_append_getElem hlt, List.all_append, ← Bool.and_assoc, ← this, hr]
            simp)
          clear y0 y1 y2 y3 hr
          generalize Rc.hasQ x y r = q at *
          go_wp2_with fail
          refine (H.out _).mono ?_
          rintro e w3 ⟨rfl, b3⟩
          have b4 := Lib.hid (hbel.trans (b3.mono hbel.size))
          have c4 := Lib.hid ((b3.block _ htop).trans HC.out)
          have t4 := Lib.hid (Nat.lt_of_lt_of_le htop b3.size)
          clear b3 k0 k1 k2 k3
          go_wp2
          go_roundw
          case rel => exact ⟨k + 1, q, by omega, by go_num, rfl, HN.out, b4.out, t4.out, c4.out⟩
          case measure => simp [intOf]; omega
      · obtain rfl : b = B := by rw [HB.out, HE.out, show k = l.length by omega, List.take_length]
        obtain ⟨⟨k0, k1, k2, k3⟩, _⟩ := box4 HC.out
        have HRR := Lib.hid (fun p : Lat grows wr => (HR.out.below (hbel.trans (p.h.mono hbel.size))))
        have HZ := Lib.hid (fun p : Lat grows wr => Nat.le_trans hbel.size p.h.size)
        clear HB HC HE HI HX HY
        go_wp2
        refine Og.grow 16 (by kernel_rfl) (by kernel_rfl) fun hc hf => ?_
        simp only [List.take_succ_cons, List.take_zero, List.drop_succ_cons, List.drop_zero]
        repeat (refine Og.det [] rfl (fun K hK => ?_); go_simp; first | (refine hK _ _ ?_; clear hK K) | (with_reducible refine ⟨_, fun p => Og.lays (R.out _ (HZ.out p) (HRR.out p)), hK _ _ ?_⟩; clear hK K) | (with_reducible refine ⟨_, fun p => Og.lays (S.out _), hK _ _ ?_⟩; clear hK K) | (with_reducible refine ⟨_, fun p => Og.lays (awake_hid.out _), hK _ _ ?_⟩; clear hK K))
        refine Og.fin fun W3 hW => ?_
        simp only [Og.opened_nil]
        clear hc hf
        go_wp2
        go_ret
        exact ⟨rfl, hbel.trans (hW.mono hbel.size)⟩
end Go.Proofs.Yteagndjoppnbgaa
