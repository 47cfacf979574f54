/- hedgerowref01.Int: the bytes of one number. -/
import Derived.Test.YtdhlebmgeiiejaaGreatKOctRef2
namespace Go.Proofs.YtdhlebmgeiiejaaGreat
open Go.RowKit

/-- a string of one byte and another string -/
theorem sum_head (h : Int) (l : List UInt8) (hl : l.length ≤ 100) : ∀ W : World, (Op.stringOp .add ⟨#[UInt8.ofNat h.toNat]⟩ ⟨l.toArray⟩).run Tryz.prog W = .ok (.string ⟨(UInt8.ofNat h.toNat :: l).toArray⟩) W := by
  intro W
  rw [run_string_add_sum _ _ _ (by simp [ByteArray.size]; omega)]
  rw [show (#[UInt8.ofNat h.toNat] : Array UInt8) = [UInt8.ofNat h.toNat].toArray from rfl, ByteArray.mk_append_mk]
  rfl
theorem conv_all (x : Int) (hx : 0 ≤ x ∧ x ≤ 255) : ∀ (W : World) (g : Nat), W.cell? ⟨g, 0, none⟩ = some (.int .u8 x) →
    (convert 88 9 (.slice (some ⟨g, 0, none⟩) 1 1)).run Tryz.prog W = .ok (.string ⟨#[UInt8.ofNat x.toNat]⟩) W := fun W g h => conv_one x W g h hx
def SizeSaid (q : Int) (s : Nat) : Prop := ∀ W, Calls Tryz.prog 91 #[.int .i64 q] W fun e w' => e = .returned (.int .i64 s) ∧ W = w'
def HiSaid (q : Int) (s : Nat) (l : List UInt8) : Prop := ∀ W, Calls Tryz.prog 92 #[.int .i64 q, .int .i64 s] W fun e w' => e = .returned (.string ⟨l.toArray⟩) ∧ Below W.heap.size W w'
theorem size_said (q : Int) (h0 : 0 ≤ q) (h1 : q ≤ 9223372036854775807) : SizeSaid q (Oct.sz q.toNat) := fun W => rsize_any q W h0 h1
theorem hi_said (q : Int) (h0 : 0 ≤ q) (h1 : q ≤ 9223372036854775807) : HiSaid q (Oct.sz q.toNat) (Oct.hi q.toNat (Oct.sz q.toNat)) := fun W => by
  have := rhigh_any q (Oct.sz q.toNat) W h0 h1 (by omega) (by have := Oct.sz_le q.toNat; omega)
  simpa only [Int.toNat_natCast] using this

set_option maxHeartbeats 1000000 in
set_option maxRecDepth 100000 in
theorem rint_neg (n : Int) (w : World) (hn : n < 0) (hlo : -9223372036854775808 ≤ n) :
    Calls Tryz.prog 58 #[.int .i64 n] w fun e w' => e = .returned (.string ⟨(Oct.enc n).toArray⟩) ∧ Below w.heap.size w w' := by
  obtain ⟨q, s, l, hq, hs8, hl, hsz, hhi, henc⟩ : ∃ (q : Int) (s : Nat) (l : List UInt8), q = -(n + 1) ∧ s ≤ 8 ∧ l.length ≤ 100 ∧ SizeSaid q s ∧ HiSaid q s l ∧ Oct.enc n = UInt8.ofNat (128 + (s : Int)).toNat :: l := by
    refine ⟨-(n + 1), Oct.sz (-(n + 1)).toNat, Oct.hi (-(n + 1)).toNat (Oct.sz (-(n + 1)).toNat), rfl, Oct.sz_le _, ?_, size_said _ (by omega) (by omega), hi_said _ (by omega) (by omega), ?_⟩
    · rw [Oct.hi_length]; have := Oct.sz_le (-(n + 1)).toNat; omega
    · have e : Oct.mag n = (-(n + 1)).toNat := by unfold Oct.mag; rw [if_pos hn]; congr 1; omega
      unfold Oct.enc Oct.head
      rw [e, if_pos hn]
      congr 1
  have HE := Lib.hid henc
  have HQ := Lib.hid hq
  clear henc hq
  go_enter Tryz.func58, Tryz.ntmps58
  go_wp2
  rw [← HQ.out]
  have e1 : IntKind.i64.wrap (128 + (s : Int)) = 128 + s := IntWalk.i64_in _ (by omega)
  have e2 : IntKind.u8.wrap (128 + (s : Int)) = 128 + s := IntWalk.u8_in _ (by omega)
  have hcv := conv_all (128 + (s : Int)) (by omega)
  have hsum := sum_head (128 + (s : Int)) l hl
  go_region_with (first | (go_at_call 91; refine (hsz _).mono ?_; rintro e w1 ⟨rfl, rfl⟩) | (go_at_call 92; refine (hhi _).mono ?_; rintro e w1 ⟨rfl, hb1⟩; try (have hcc := keep_new hb1)))
  all_goals (go_wp2; go_ret; refine ⟨ret_str (by rw [HE.out]), ?_⟩)
  all_goals first | exact (((Below.refl _ _).drew).trans hb1).alloc hb1.size _ | exact (((Below.refl _ _).alloc (Nat.le_refl _) _).drew).trans (hb1.mono (by simp))

set_option maxHeartbeats 1000000 in
set_option maxRecDepth 100000 in
theorem rint_nonneg (n : Int) (w : World) (hn : 0 ≤ n) (hup : n ≤ 9223372036854775807) :
    Calls Tryz.prog 58 #[.int .i64 n] w fun e w' => e = .returned (.string ⟨(Oct.enc n).toArray⟩) ∧ Below w.heap.size w w' := by
  obtain ⟨s, l, hs8, hl, hsz, hhi, henc⟩ : ∃ (s : Nat) (l : List UInt8), s ≤ 8 ∧ l.length ≤ 100 ∧ SizeSaid n s ∧ HiSaid n s l ∧ Oct.enc n = UInt8.ofNat s :: l := by
    refine ⟨Oct.sz n.toNat, Oct.hi n.toNat (Oct.sz n.toNat), Oct.sz_le _, ?_, size_said _ (by omega) (by omega), hi_said _ (by omega) (by omega), ?_⟩
    · rw [Oct.hi_length]; have := Oct.sz_le n.toNat; omega
    · have e : Oct.mag n = n.toNat := by unfold Oct.mag; rw [if_neg (by omega)]
      unfold Oct.enc Oct.head
      rw [e, if_neg (by omega), Nat.zero_add]
  have HE := Lib.hid henc
  clear henc
  go_enter Tryz.func58, Tryz.ntmps58
  go_wp2
  have e2 : IntKind.u8.wrap ((s : Int)) = s := IntWalk.u8_in _ (by omega)
  have hcv := conv_all ((s : Int)) (by omega)
  have hsum := sum_head (s : Int) l hl
  simp only [Int.toNat_natCast] at hsum hcv
  go_region_with (first | (go_at_call 91; refine (hsz _).mono ?_; rintro e w1 ⟨rfl, rfl⟩) | (go_at_call 92; refine (hhi _).mono ?_; rintro e w1 ⟨rfl, hb1⟩; try (have hcc := keep_new hb1)))
  all_goals (go_wp2; go_ret; refine ⟨ret_str (by rw [HE.out]), ?_⟩)
  all_goals first | exact (((Below.refl _ _).drew).trans hb1).alloc hb1.size _ | exact (((Below.refl _ _).alloc (Nat.le_refl _) _).drew).trans (hb1.mono (by simp))

theorem rint_any (n : Int) (w : World) (h0 : -9223372036854775808 ≤ n) (h1 : n ≤ 9223372036854775807) :
    Calls Tryz.prog 58 #[.int .i64 n] w fun e w' => e = .returned (.string ⟨(Oct.enc n).toArray⟩) ∧ Below w.heap.size w w' := by
  by_cases h : n < 0
  · exact rint_neg n w h h0
  · exact rint_nonneg n w (by omega) h1

end Go.Proofs.YtdhlebmgeiiejaaGreat
