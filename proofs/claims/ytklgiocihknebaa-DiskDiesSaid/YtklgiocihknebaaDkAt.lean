/- The code's disk step by step, from a world on; awake. -/
import Derived.Test.YtklgiocihknebaaDkCopy
namespace Go.Proofs.Ytklgiocihknebaa
open Go.RowKit Go.Maps Dk
set_option linter.unusedVariables false

/-- behind some deeds since the world w: the disk is K -/
def At (w : World) (B d : Nat) (K : St) (W : World) : Prop := Hid (DiskAt W B d K ∧ B ≤ w.heap.size ∧ Gone isRef B w W)
section
variable {w W : World} {B d n : Nat} {K K' : St} {s t : Str}
theorem At.start (h : DiskAt W B d K) (hB : B ≤ W.heap.size) : At W B d K W := Lib.hid ⟨h, hB, Gone.refl _ _ _⟩
theorem At.size (h : At w B d K W) : B ≤ W.heap.size := Nat.le_trans h.out.2.1 h.out.2.2.size
theorem At.bel (h : At w B d K W) : Below B w W := h.out.2.2.bel
theorem At.below (h : At w B d K W) {W' : World} (hb : Below W.heap.size W W') : At w B d K W' := Lib.hid ⟨h.out.1.below hb, h.out.2.1, h.out.2.2.below h.size hb⟩
theorem At.go (h : At w B d K W) {W' : World} (hd : DiskAt W' B d K') (hg : Gone isRef B W W') : At w B d K' W' := Lib.hid ⟨hd, h.out.2.1, h.out.2.2.trans hg⟩
theorem at_new (w : World) : Calls Try.prog 12 #[] w fun e w' => e = .returned (.pointer (some ⟨w.heap.size, 0, none⟩)) ∧ At w w.heap.size w.heap.size Dk.new w' :=
  (new_any w).mono fun e w' ⟨h1, h2, h3⟩ => ⟨h1, Lib.hid ⟨h2, Nat.le_refl _, ⟨h3, Kp.below h3⟩⟩⟩
theorem at_append (h : At w B d K W) (e : Dk.append K s t = (K', n)) (hs : s.length ≤ 140737488351232) (ht : t.length ≤ 140737488351232) :
    Calls Try.prog 21 #[.pointer (some ⟨d, 0, none⟩), .string ⟨s.toArray⟩, .string ⟨t.toArray⟩] W fun e w' => e = .returned (.int .i64 (n : Int)) ∧ At w B d K' w' :=
  (append_any W h.out.1 h.size s t hs ht).mono fun e' w' ⟨h1, h2, h3⟩ => by rw [e] at h1 h2; exact ⟨h1, h.go h2 h3⟩
theorem at_sync (h : At w B d K W) (e : Dk.sync K s = (K', n)) (hs : s.length ≤ 140737488351232) :
    Calls Try.prog 22 #[.pointer (some ⟨d, 0, none⟩), .string ⟨s.toArray⟩] W fun e w' => e = .returned (.int .i64 (n : Int)) ∧ At w B d K' w' :=
  (sync_any W h.out.1 s hs).mono fun e' w' ⟨h1, h2, h3⟩ => by rw [e] at h1 h2; exact ⟨h1, h.go h2 h3⟩
theorem at_trunc (h : At w B d K W) {m : Int} (e : Dk.trunc K s m = (K', n)) (hs : s.length ≤ 140737488351232) (hm : -9223372036854775808 ≤ m ∧ m ≤ 9223372036854775807) :
    Calls Try.prog 26 #[.pointer (some ⟨d, 0, none⟩), .string ⟨s.toArray⟩, .int .i64 m] W fun e w' => e = .returned (.int .i64 (n : Int)) ∧ At w B d K' w' :=
  (trunc_any W h.out.1 s hs m hm).mono fun e' w' ⟨h1, h2, h3⟩ => by rw [e] at h1 h2; exact ⟨h1, h.go h2 h3⟩
theorem at_rename (h : At w B d K W) (e : Dk.rename K s t = (K', n)) (hs : s.length ≤ 140737488351232) (ht : t.length ≤ 140737488351232) :
    Calls Try.prog 25 #[.pointer (some ⟨d, 0, none⟩), .string ⟨s.toArray⟩, .string ⟨t.toArray⟩] W fun e w' => e = .returned (.int .i64 (n : Int)) ∧ At w B d K' w' :=
  (rename_any W h.out.1 h.size s t hs ht).mono fun e' w' ⟨h1, h2, h3⟩ => by rw [e] at h1 h2; exact ⟨h1, h.go h2 h3⟩
theorem at_remove (h : At w B d K W) (e : Dk.remove K s = (K', n)) (hs : s.length ≤ 140737488351232) :
    Calls Try.prog 29 #[.pointer (some ⟨d, 0, none⟩), .string ⟨s.toArray⟩] W fun e w' => e = .returned (.int .i64 (n : Int)) ∧ At w B d K' w' :=
  (remove_any W h.out.1 s hs).mono fun e' w' ⟨h1, h2, h3⟩ => by rw [e] at h1 h2; exact ⟨h1, h.go h2 h3⟩
theorem at_cut (h : At w B d K W) {m : Int} (e : Dk.cut K m = K') (hm : -9223372036854775808 ≤ m ∧ m ≤ 9223372036854775807) :
    Calls Try.prog 30 #[.pointer (some ⟨d, 0, none⟩), .int .i64 m] W fun e w' => e = .returned (.tuple #[]) ∧ At w B d K' w' :=
  (cut_any W h.out.1 m hm).mono fun e' w' ⟨h1, h2, h3⟩ => by rw [e] at h2; exact ⟨h1, h.go h2 h3⟩
theorem at_crash (h : At w B d K W) {m : Int} (e : Dk.crash K m = K') (hm : -9223372036854775808 ≤ m ∧ m ≤ 9223372036854775807) :
    Calls Try.prog 23 #[.pointer (some ⟨d, 0, none⟩), .int .i64 m] W fun e w' => e = .returned (.tuple #[]) ∧ At w B d K' w' :=
  (crash_any W h.out.1 m hm).mono fun e' w' ⟨h1, h2, h3⟩ => by rw [e] at h2; exact ⟨h1, h.go h2 h3⟩
theorem at_read (h : At w B d K W) (e : Dk.read K s = (t, n)) (hs : s.length ≤ 140737488351232) :
    Calls Try.prog 17 #[.pointer (some ⟨d, 0, none⟩), .string ⟨s.toArray⟩] W fun e w' => e = .returned (.tuple #[.string ⟨t.toArray⟩, .int .i64 (n : Int)]) ∧ W = w' :=
  (read_any W h.out.1 s hs).mono fun e' w' ⟨h1, h2⟩ => by rw [e] at h1; exact ⟨h1, h2⟩
theorem at_size (h : At w B d K W) {a b : Nat} (e : Dk.size K s = (a, b, n)) (hs : s.length ≤ 140737488351232) :
    Calls Try.prog 19 #[.pointer (some ⟨d, 0, none⟩), .string ⟨s.toArray⟩] W fun e w' => e = .returned (.tuple #[.int .i64 (a : Int), .int .i64 (b : Int), .int .i64 (n : Int)]) ∧ At w B d K w' :=
  (size_any W h.out.1 s hs).mono fun e' w' ⟨h1, h2⟩ => by rw [e] at h1; exact ⟨h1, h.below h2⟩
theorem at_dead (h : At w B d K W) {b : Bool} (e : K.dead = b) : Calls Try.prog 31 #[.pointer (some ⟨d, 0, none⟩)] W fun e w' => e = .returned (.bool b) ∧ W = w' :=
  (dead_any W h.out.1).mono fun e' w' ⟨h1, h2⟩ => by rw [e] at h1; exact ⟨h1, h2⟩
theorem at_files (h : At w B d K W) {m : Nat} (e : K.L.length = m) : Calls Try.prog 24 #[.pointer (some ⟨d, 0, none⟩)] W fun e w' => (∃ A c, e = .returned (.slice A m c)) ∧ At w B d K w' :=
  (files_any W h.out.1).mono fun e' w' ⟨⟨v, h1, h2⟩, h3⟩ => by
    obtain ⟨A, c, hv⟩ := owns_len h2
    rw [List.length_map, e] at hv
    exact ⟨⟨A, c, by rw [h1, hv]⟩, h.below h3⟩
end

set_option maxHeartbeats 8000000 in
set_option maxRecDepth 100000 in
theorem awake_any (w : World) : Calls Try.prog 16 #[] w fun e w' => e = .returned (.bool true) ∧ Below w.heap.size w w' := by
  have N := Lib.hid (at_new w)
  obtain ⟨K1, e1⟩ : ∃ K1, Dk.append Dk.new [97] [120, 121] = (K1, 0) := ⟨_, rfl⟩
  obtain ⟨K2, e2⟩ : ∃ K2, Dk.sync K1 [97] = (K2, 0) := by cases e1; exact ⟨_, rfl⟩
  obtain ⟨K3, e3⟩ : ∃ K3, Dk.append K2 [97] [122, 118] = (K3, 0) := by cases e1; cases e2; exact ⟨_, rfl⟩
  obtain ⟨K4, e4⟩ : ∃ K4, Dk.append K3 [98] [119] = (K4, 0) := by cases e1; cases e2; cases e3; exact ⟨_, rfl⟩
  obtain ⟨K5, e5⟩ : ∃ K5, Dk.crash K4 1 = K5 := ⟨_, rfl⟩
  have e6 : Dk.read K5 [97] = ([120, 121, 122], 0) := by cases e1; cases e2; cases e3; cases e4; cases e5; rfl
  have e7 : Dk.read K5 [98] = ([119], 0) := by cases e1; cases e2; cases e3; cases e4; cases e5; rfl
  obtain ⟨K6, e8⟩ : ∃ K6, Dk.rename K5 [97] [98] = (K6, 7) := by cases e1; cases e2; cases e3; cases e4; cases e5; exact ⟨_, rfl⟩
  have E1 := Lib.hid e1
  have E2 := Lib.hid e2
  have E3 := Lib.hid e3
  have E4 := Lib.hid e4
  have E5 := Lib.hid e5
  have E6 := Lib.hid e6
  have E7 := Lib.hid e7
  have E8 := Lib.hid e8
  clear e1 e2 e3 e4 e5 e6 e7 e8
  go_enter Try.func16, Try.ntmps16
  go_wp2_with (first
    | (go_at_call 12; refine N.out.mono ?_; rintro e w1 ⟨rfl, H0⟩)
    | (go_at_call 21; refine (at_append H0 E1.out (by decide) (by decide)).mono ?_; rintro e w2 ⟨rfl, H1⟩; clear H0)
    | (go_at_call 22; refine (at_sync H1 E2.out (by decide)).mono ?_; rintro e w3 ⟨rfl, H2⟩; clear H1)
    | (go_at_call 21; refine (at_append H2 E3.out (by decide) (by decide)).mono ?_; rintro e w4 ⟨rfl, H3⟩; clear H2)
    | (go_at_call 21; refine (at_append H3 E4.out (by decide) (by decide)).mono ?_; rintro e w5 ⟨rfl, H4⟩; clear H3)
    | (go_at_call 23; refine (at_crash H4 E5.out (by decide)).mono ?_; rintro e w6 ⟨rfl, H5⟩; clear H4)
    | (go_at_call 17; refine (at_read H5 E6.out (by decide)).mono ?_; rintro e w7 ⟨rfl, rfl⟩; clear E6)
    | (go_at_call 17; refine (at_read H5 E7.out (by decide)).mono ?_; rintro e w7 ⟨rfl, rfl⟩; clear E7)
    | (go_at_call 25; refine (at_rename H5 E8.out (by decide) (by decide)).mono ?_; rintro e w8 ⟨rfl, H6⟩; clear H5))
  go_ret
  exact ⟨rfl, H6.bel⟩
end Go.Proofs.Ytklgiocihknebaa
