/- The code's disk step by step, from a world on; awake. -/
import Derived.Test.YtpafialojcidnaaGreatDoorDkCopy
namespace Go.Proofs.YtpafialojcidnaaGreatDoor
open Go.RowKit Go.Maps Dk
set_option linter.unusedVariables false

/-- behind some deeds since the world w: the disk is K -/
def At (w : World) (B d : Nat) (K : St) (W : World) : Prop := Hid (DiskAt W B d K ∧ B ≤ w.heap.size ∧ Gone isRef B w W)
section
variable {w W : World} {B d n : Nat} {K K' : St} {s t : Str}
theorem At.start (h : DiskAt W B d K) (hB : B ≤ W.heap.size) : At W B d K W := Lib.hid ⟨h, hB, Gone.refl _ _ _⟩
theorem At.size (h : At w B d K W) : B ≤ W.heap.size := Nat.le_trans h.out.2.1 h.out.2.2.size
theorem At.bel (h : At w B d K W) : Below B w W := h.out.2.2.bel
theorem At.below (h : At w B d K W) {W' : World} (hb : Below W.heap.size W W') : At w B d K W' := Lib.hid ⟨h.out.1.below hb, h.out.2.1, h.out.2.2.below h.size hb⟩
theorem At.go (h : At w B d K W) {W' : World} (hd : DiskAt W' B d K') (hg : Gone isRef B W W') : At w B d K' W' := Lib.hid ⟨hd, h.out.2.1, h.out.2.2.trans hg⟩
theorem at_new (w : World) : Calls Tryz.prog 28 #[] w fun e w' => e = .returned (.pointer (some ⟨w.heap.size, 0, none⟩)) ∧ At w w.heap.size w.heap.size Dk.new w' :=
  (new_any w).mono fun e w' ⟨h1, h2, h3⟩ => ⟨h1, Lib.hid ⟨h2, Nat.le_refl _, ⟨h3, Kp.below h3⟩⟩⟩
theorem at_append (h : At w B d K W) (e : Dk.append K s t = (K', n)) (hs : s.length ≤ 140737488351232) (ht : t.length ≤ 140737488351232) :
    Calls Tryz.prog 26 #[.pointer (some ⟨d, 0, none⟩), .string ⟨s.toArray⟩, .string ⟨t.toArray⟩] W fun e w' => e = .returned (.int .i64 (n : Int)) ∧ At w B d K' w' :=
  (append_any W h.out.1 h.size s t hs ht).mono fun e' w' ⟨h1, h2, h3⟩ => by rw [e] at h1 h2; exact ⟨h1, h.go h2 h3⟩
theorem at_sync (h : At w B d K W) (e : Dk.sync K s = (K', n)) (hs : s.length ≤ 140737488351232) :
    Calls Tryz.prog 48 #[.pointer (some ⟨d, 0, none⟩), .string ⟨s.toArray⟩] W fun e w' => e = .returned (.int .i64 (n : Int)) ∧ At w B d K' w' :=
  (sync_any W h.out.1 s hs).mono fun e' w' ⟨h1, h2, h3⟩ => by rw [e] at h1 h2; exact ⟨h1, h.go h2 h3⟩
theorem at_trunc (h : At w B d K W) {m : Int} (e : Dk.trunc K s m = (K', n)) (hs : s.length ≤ 140737488351232) (hm : -9223372036854775808 ≤ m ∧ m ≤ 9223372036854775807) :
    Calls Tryz.prog 25 #[.pointer (some ⟨d, 0, none⟩), .string ⟨s.toArray⟩, .int .i64 m] W fun e w' => e = .returned (.int .i64 (n : Int)) ∧ At w B d K' w' :=
  (trunc_any W h.out.1 s hs m hm).mono fun e' w' ⟨h1, h2, h3, _⟩ => by rw [e] at h1 h2; exact ⟨h1, h.go h2 h3⟩
theorem at_remove (h : At w B d K W) (e : Dk.remove K s = (K', n)) (hs : s.length ≤ 140737488351232) :
    Calls Tryz.prog 42 #[.pointer (some ⟨d, 0, none⟩), .string ⟨s.toArray⟩] W fun e w' => e = .returned (.int .i64 (n : Int)) ∧ At w B d K' w' :=
  (remove_any W h.out.1 s hs).mono fun e' w' ⟨h1, h2, h3, _⟩ => by rw [e] at h1 h2; exact ⟨h1, h.go h2 h3⟩
theorem at_crash (h : At w B d K W) {m : Int} (e : Dk.crash K m = K') (hm : -9223372036854775808 ≤ m ∧ m ≤ 9223372036854775807) :
    Calls Tryz.prog 40 #[.pointer (some ⟨d, 0, none⟩), .int .i64 m] W fun e w' => e = .returned (.tuple #[]) ∧ At w B d K' w' :=
  (crash_any W h.out.1 m hm).mono fun e' w' ⟨h1, h2, h3⟩ => by rw [e] at h2; exact ⟨h1, h.go h2 h3⟩
theorem at_read (h : At w B d K W) (e : Dk.read K s = (t, n)) (hs : s.length ≤ 140737488351232) :
    Calls Tryz.prog 22 #[.pointer (some ⟨d, 0, none⟩), .string ⟨s.toArray⟩] W fun e w' => e = .returned (.tuple #[.string ⟨t.toArray⟩, .int .i64 (n : Int)]) ∧ W = w' :=
  (read_any W h.out.1 s hs).mono fun e' w' ⟨h1, h2⟩ => by rw [e] at h1; exact ⟨h1, h2⟩
theorem at_size (h : At w B d K W) {a b : Nat} (e : Dk.size K s = (a, b, n)) (hs : s.length ≤ 140737488351232) :
    Calls Tryz.prog 69 #[.pointer (some ⟨d, 0, none⟩), .string ⟨s.toArray⟩] W fun e w' => e = .returned (.tuple #[.int .i64 (a : Int), .int .i64 (b : Int), .int .i64 (n : Int)]) ∧ At w B d K w' :=
  (size_any W h.out.1 s hs).mono fun e' w' ⟨h1, h2⟩ => by rw [e] at h1; exact ⟨h1, h.below h2⟩
theorem at_files (h : At w B d K W) {m : Nat} (e : K.L.length = m) : Calls Tryz.prog 27 #[.pointer (some ⟨d, 0, none⟩)] W fun e w' => (∃ A c, e = .returned (.slice A m c)) ∧ At w B d K w' :=
  (files_any W h.out.1).mono fun e' w' ⟨⟨v, h1, h2⟩, h3⟩ => by
    obtain ⟨A, c, hv⟩ := owns_len h2
    rw [List.length_map, e] at hv
    exact ⟨⟨A, c, by rw [h1, hv]⟩, h.below h3⟩
end

end Go.Proofs.YtpafialojcidnaaGreatDoor
