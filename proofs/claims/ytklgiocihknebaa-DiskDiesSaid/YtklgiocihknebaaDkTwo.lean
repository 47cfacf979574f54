/- Step: a deed done to both. -/
import Derived.Test.YtklgiocihknebaaDkFew
import Derived.Test.YtklgiocihknebaaDkLaw4
import Derived.Test.YtklgiocihknebaaDkRef9
import Derived.Deep.RegionHeld3
namespace Go.Proofs.Ytklgiocihknebaa
open Go.RowKit Go.Maps Dk
set_option linter.unusedVariables false

def isBoth (o : Obj) : Bool := isRef o && isDsk o
theorem both_ref {o : Obj} (h : isBoth o = true) : isRef o = true := by unfold isBoth at h; simp_all
theorem both_dsk {o : Obj} (h : isBoth o = true) : isDsk o = true := by unfold isBoth at h; simp_all
theorem Gone.less {p q : Obj → Bool} {B : Nat} {a b : World} (h : Gone p B a b) (hq : ∀ o, q o = true → p o = true) : Gone q B a b := ⟨h.bel, fun i o hi ho => h.kp i o hi (hq o ho)⟩
/-- the disk is K, the document's is L, since the world w -/
def P2 (w : World) (B d r : Nat) (K L : St) (W : World) : Prop := Hid (DiskAt W B d K ∧ RefAt W B r L ∧ B ≤ w.heap.size ∧ Gone isBoth B w W)
section
variable {w W W' : World} {B d r n : Nat} {K L K' L' : St} {s t : Str}
theorem P2.start (hd : DiskAt W B d K) (hr : RefAt W B r L) (hB : B ≤ W.heap.size) : P2 W B d r K L W := Lib.hid ⟨hd, hr, hB, Gone.refl _ _ _⟩
theorem P2.size (h : P2 w B d r K L W) : B ≤ W.heap.size := Nat.le_trans h.out.2.2.1 h.out.2.2.2.size
theorem P2.bel (h : P2 w B d r K L W) : Below B w W := h.out.2.2.2.bel
theorem P2.below (h : P2 w B d r K L W) (hb : Below W.heap.size W W') : P2 w B d r K L W' := Lib.hid ⟨h.out.1.below hb, h.out.2.1.below hb, h.out.2.2.1, h.out.2.2.2.below h.size hb⟩
theorem P2.drew (h : P2 w B d r K L W) : P2 w B d r K L W.drew := h.below (Below.refl _ _).drew
theorem P2.again (h : P2 w B d r K L W) : P2 W B d r K L W := P2.start h.out.1 h.out.2.1 h.size
theorem P2.trans (h : P2 w B d r K L W) (k : P2 W B d r K' L' W') : P2 w B d r K' L' W' := Lib.hid ⟨k.out.1, k.out.2.1, h.out.2.2.1, h.out.2.2.2.trans k.out.2.2.2⟩
theorem P2.code (h : P2 w B d r K L W) (hd : DiskAt W' B d K') (hg : Gone isRef B W W') : P2 w B d r K' L W' :=
  Lib.hid ⟨hd, h.out.2.1.kp hg.kp, h.out.2.2.1, h.out.2.2.2.trans (hg.less fun _ => both_ref)⟩
theorem P2.ref (h : P2 w B d r K L W) (hr : RefAt W' B r L') (hg : Gone isDsk B W W') : P2 w B d r K L' W' :=
  Lib.hid ⟨h.out.1.kp hg.kp, hr, h.out.2.2.1, h.out.2.2.2.trans (hg.less fun _ => both_dsk)⟩
theorem P2.held {b : Nat} {cs : Array Value} {T : TypeId} (h : P2 w B d r K L W) (hb : Hid (w.heap[b]? = some (.cells cs T (0, 0)) ∧ isBoth (.cells cs T (0, 0)) = true)) (j : Nat) : W.cell? ⟨b, j, none⟩ = cs[j]? :=
  cellAt (h.out.2.2.2.kp _ _ hb.out.1 hb.out.2) j
theorem p_append (h : P2 w B d r K L W) (e : Dk.append K s t = (K', n)) (hs : s.length ≤ 140737488351232) (ht : t.length ≤ 140737488351232) :
    Calls Try.prog 21 #[.pointer (some ⟨d, 0, none⟩), .string ⟨s.toArray⟩, .string ⟨t.toArray⟩] W fun e w' => e = .returned (.int .i64 (n : Int)) ∧ P2 w B d r K' L w' :=
  (append_any W h.out.1 h.size s t hs ht).mono fun e' w' ⟨h1, h2, h3⟩ => by rw [e] at h1 h2; exact ⟨h1, h.code h2 h3⟩
theorem q_append (h : P2 w B d r K L W) (e : Dk.append L s t = (L', n)) (hs : s.length ≤ 140737488351232) (ht : t.length ≤ 140737488351232) :
    Calls Try.prog 32 #[.pointer (some ⟨r, 0, none⟩), .string ⟨s.toArray⟩, .string ⟨t.toArray⟩] W fun e w' => e = .returned (.int .i64 (n : Int)) ∧ P2 w B d r K L' w' :=
  (rappend_any W h.out.2.1 s t hs ht).mono fun e' w' ⟨h1, h2, h3⟩ => by rw [e] at h1 h2; exact ⟨h1, h.ref h2 h3⟩
theorem p_sync (h : P2 w B d r K L W) (e : Dk.sync K s = (K', n)) (hs : s.length ≤ 140737488351232) :
    Calls Try.prog 22 #[.pointer (some ⟨d, 0, none⟩), .string ⟨s.toArray⟩] W fun e w' => e = .returned (.int .i64 (n : Int)) ∧ P2 w B d r K' L w' :=
  (sync_any W h.out.1 s hs).mono fun e' w' ⟨h1, h2, h3⟩ => by rw [e] at h1 h2; exact ⟨h1, h.code h2 h3⟩
theorem q_sync (h : P2 w B d r K L W) (e : Dk.sync L s = (L', n)) (hs : s.length ≤ 140737488351232) :
    Calls Try.prog 33 #[.pointer (some ⟨r, 0, none⟩), .string ⟨s.toArray⟩] W fun e w' => e = .returned (.int .i64 (n : Int)) ∧ P2 w B d r K L' w' :=
  (rsync_any W h.out.2.1 s hs).mono fun e' w' ⟨h1, h2, h3⟩ => by rw [e] at h1 h2; exact ⟨h1, h.ref h2 h3⟩
theorem p_trunc (h : P2 w B d r K L W) {m : Int} (e : Dk.trunc K s m = (K', n)) (hs : s.length ≤ 140737488351232) (hm : -9223372036854775808 ≤ m ∧ m ≤ 9223372036854775807) :
    Calls Try.prog 26 #[.pointer (some ⟨d, 0, none⟩), .string ⟨s.toArray⟩, .int .i64 m] W fun e w' => e = .returned (.int .i64 (n : Int)) ∧ P2 w B d r K' L w' :=
  (trunc_any W h.out.1 s hs m hm).mono fun e' w' ⟨h1, h2, h3⟩ => by rw [e] at h1 h2; exact ⟨h1, h.code h2 h3⟩
theorem q_trunc (h : P2 w B d r K L W) {m : Int} (e : Dk.trunc L s m = (L', n)) (hs : s.length ≤ 140737488351232) (hm : -9223372036854775808 ≤ m ∧ m ≤ 9223372036854775807) :
    Calls Try.prog 34 #[.pointer (some ⟨r, 0, none⟩), .string ⟨s.toArray⟩, .int .i64 m] W fun e w' => e = .returned (.int .i64 (n : Int)) ∧ P2 w B d r K L' w' :=
  (rtrunc_any W h.out.2.1 s hs m hm).mono fun e' w' ⟨h1, h2, h3⟩ => by rw [e] at h1 h2; exact ⟨h1, h.ref h2 h3⟩
theorem p_rename (h : P2 w B d r K L W) (e : Dk.rename K s t = (K', n)) (hs : s.length ≤ 140737488351232) (ht : t.length ≤ 140737488351232) :
    Calls Try.prog 25 #[.pointer (some ⟨d, 0, none⟩), .string ⟨s.toArray⟩, .string ⟨t.toArray⟩] W fun e w' => e = .returned (.int .i64 (n : Int)) ∧ P2 w B d r K' L w' :=
  (rename_any W h.out.1 h.size s t hs ht).mono fun e' w' ⟨h1, h2, h3⟩ => by rw [e] at h1 h2; exact ⟨h1, h.code h2 h3⟩
theorem q_rename (h : P2 w B d r K L W) (e : Dk.rename L s t = (L', n)) (hs : s.length ≤ 140737488351232) (ht : t.length ≤ 140737488351232) :
    Calls Try.prog 35 #[.pointer (some ⟨r, 0, none⟩), .string ⟨s.toArray⟩, .string ⟨t.toArray⟩] W fun e w' => e = .returned (.int .i64 (n : Int)) ∧ P2 w B d r K L' w' :=
  (rrename_any W h.out.2.1 s t hs ht).mono fun e' w' ⟨h1, h2, h3⟩ => by rw [e] at h1 h2; exact ⟨h1, h.ref h2 h3⟩
theorem p_remove (h : P2 w B d r K L W) (e : Dk.remove K s = (K', n)) (hs : s.length ≤ 140737488351232) :
    Calls Try.prog 29 #[.pointer (some ⟨d, 0, none⟩), .string ⟨s.toArray⟩] W fun e w' => e = .returned (.int .i64 (n : Int)) ∧ P2 w B d r K' L w' :=
  (remove_any W h.out.1 s hs).mono fun e' w' ⟨h1, h2, h3⟩ => by rw [e] at h1 h2; exact ⟨h1, h.code h2 h3⟩
theorem q_remove (h : P2 w B d r K L W) (e : Dk.remove L s = (L', n)) (hs : s.length ≤ 140737488351232) :
    Calls Try.prog 36 #[.pointer (some ⟨r, 0, none⟩), .string ⟨s.toArray⟩] W fun e w' => e = .returned (.int .i64 (n : Int)) ∧ P2 w B d r K L' w' :=
  (rremove_any W h.out.2.1 s hs).mono fun e' w' ⟨h1, h2, h3⟩ => by rw [e] at h1 h2; exact ⟨h1, h.ref h2 h3⟩
theorem p_crash (h : P2 w B d r K L W) {m : Int} (e : Dk.crash K m = K') (hm : -9223372036854775808 ≤ m ∧ m ≤ 9223372036854775807) :
    Calls Try.prog 23 #[.pointer (some ⟨d, 0, none⟩), .int .i64 m] W fun e w' => e = .returned (.tuple #[]) ∧ P2 w B d r K' L w' :=
  (crash_any W h.out.1 m hm).mono fun e' w' ⟨h1, h2, h3⟩ => by rw [e] at h2; exact ⟨h1, h.code h2 h3⟩
theorem q_crash (h : P2 w B d r K L W) {m : Int} (e : Dk.crash L m = L') (hm : -9223372036854775808 ≤ m ∧ m ≤ 9223372036854775807) :
    Calls Try.prog 37 #[.pointer (some ⟨r, 0, none⟩), .int .i64 m] W fun e w' => e = .returned (.tuple #[]) ∧ P2 w B d r K L' w' :=
  (rcrash_any W h.out.2.1 m hm).mono fun e' w' ⟨h1, h2, h3⟩ => by rw [e] at h2; exact ⟨h1, h.ref h2 h3⟩
theorem p_cut (h : P2 w B d r K L W) {m : Int} (e : Dk.cut K m = K') (hm : -9223372036854775808 ≤ m ∧ m ≤ 9223372036854775807) :
    Calls Try.prog 30 #[.pointer (some ⟨d, 0, none⟩), .int .i64 m] W fun e w' => e = .returned (.tuple #[]) ∧ P2 w B d r K' L w' :=
  (cut_any W h.out.1 m hm).mono fun e' w' ⟨h1, h2, h3⟩ => by rw [e] at h2; exact ⟨h1, h.code h2 h3⟩
theorem q_cut (h : P2 w B d r K L W) {m : Int} (e : Dk.cut L m = L') (hm : -9223372036854775808 ≤ m ∧ m ≤ 9223372036854775807) :
    Calls Try.prog 38 #[.pointer (some ⟨r, 0, none⟩), .int .i64 m] W fun e w' => e = .returned (.tuple #[]) ∧ P2 w B d r K L' w' :=
  (rcut_any W h.out.2.1 m hm).mono fun e' w' ⟨h1, h2, h3⟩ => by rw [e] at h2; exact ⟨h1, h.ref h2 h3⟩
theorem p_dead (h : P2 w B d r K L W) {b : Bool} (e : K.dead = b) : Calls Try.prog 31 #[.pointer (some ⟨d, 0, none⟩)] W fun e w' => e = .returned (.bool b) ∧ W = w' :=
  (dead_any W h.out.1).mono fun e' w' ⟨h1, h2⟩ => by rw [e] at h1; exact ⟨h1, h2⟩
theorem P2.rdead (h : P2 w B d r K L W) : W.cell? ⟨r, 3, none⟩ = some (.bool L.dead) := by
  obtain ⟨v, q, hr⟩ := h.out.2.1
  obtain ⟨⟨_, _, _, c3⟩, _⟩ := box4 hr.box
  exact c3
end
end Go.Proofs.Ytklgiocihknebaa
