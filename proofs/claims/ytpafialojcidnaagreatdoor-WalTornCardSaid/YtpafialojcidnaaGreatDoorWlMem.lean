/- A log in memory, and the tables that its calls read. -/
import Derived.Test.YtpafialojcidnaaGreatDoorDkAt
import Derived.Test.YtpafialojcidnaaGreatDoorFrAll
import Derived.Test.YtpafialojcidnaaGreatDoorWlPure2
import Derived.Lib.ItoaNum
namespace Go.Proofs.YtpafialojcidnaaGreatDoor
open Go.RowKit Go.Maps Dk
open Wl (Lo)
set_option linter.unusedVariables false

/-! ### the tables -/
theorem gPow : Tryz.prog.globalNamed "internal/strconv.uint64pow10" = some 4 := by kernel_rfl
def Tabs (B : Nat) (W : World) : Prop := Hid (Good W ∧ Lib.TabIs Tryz.prog W "internal/strconv.uint64pow10" .u64 Lib.pow10Tab ∧ 0 < B ∧ 4 < B)
theorem tab_low {P : Program} {W W' : World} {B g : Nat} {n : String} {k : IntKind} {zs : List Int} (hg : P.globalNamed n = some g) (h : Lib.TabIs P W n k zs) (hb : Below B W W') (hB : g < B) : Lib.TabIs P W' n k zs := by
  unfold Lib.TabIs World.var? at h ⊢
  rw [hg] at h ⊢
  simp only [Option.bind_some] at h ⊢
  rw [hb.block g hB]
  exact h
theorem tab_lt {P : Program} {W : World} {g : Nat} {n : String} {k : IntKind} {zs : List Int} (hg : P.globalNamed n = some g) (h : Lib.TabIs P W n k zs) : g < W.heap.size := by
  unfold Lib.TabIs World.var? at h
  rw [hg] at h
  simp only [Option.bind_some] at h
  rcases Nat.lt_or_ge g W.heap.size with h' | h'
  · exact h'
  · rw [Array.getElem?_eq_none h'] at h; cases h
theorem Tabs.below {B B' : Nat} {W W' : World} (h : Tabs B W) (hb : Below B' W W') (hB : B ≤ B') : Tabs B W' :=
  Lib.hid ⟨Lib.hid (tab_low gTab h.out.1.out hb (Nat.lt_of_lt_of_le h.out.2.2.1 hB)), tab_low gPow h.out.2.1 hb (Nat.lt_of_lt_of_le h.out.2.2.2 hB), h.out.2.2⟩
theorem Tabs.up {B B' : Nat} {W : World} (h : Tabs B W) (hB : B ≤ B') : Tabs B' W := Lib.hid ⟨h.out.1, h.out.2.1, Nat.lt_of_lt_of_le h.out.2.2.1 hB, Nat.lt_of_lt_of_le h.out.2.2.2 hB⟩
theorem Tabs.good {B : Nat} {W : World} (h : Tabs B W) : Good W := h.out.1
theorem Tabs.start {W : World} (h1 : Good W) (h2 : Lib.TabIs Tryz.prog W "internal/strconv.uint64pow10" .u64 Lib.pow10Tab) : Tabs W.heap.size W := Lib.hid ⟨h1, h2, tab_lt gTab h1.out, tab_lt gPow h2⟩

/-! ### what a log's deeds leave -/
theorem ref_log {o : Obj} (h : isLog o = true) : isRef o = true := by
  cases o with
  | cells c T f => simp only [isLog, isRef, Bool.not_eq_true', Bool.or_eq_false_iff] at h ⊢; exact ⟨⟨h.1.1.1, h.1.1.2⟩, h.1.2⟩
  | map _ _ => cases h
  | _ => rfl
theorem Kp.weak {p q : Obj → Bool} {W W' : World} (h : Kp p W W') (k : ∀ o, q o = true → p o = true) : Kp q W W' := fun b o hb ho => h b o hb (k o ho)
theorem Gone.weak {p q : Obj → Bool} {B : Nat} {W W' : World} (h : Gone p B W W') (k : ∀ o, q o = true → p o = true) : Gone q B W W' := ⟨h.bel, h.kp.weak k⟩
theorem Gone.log {B : Nat} {W W' : World} (h : Gone isRef B W W') : Gone isLog B W W' := h.weak fun _ => ref_log

theorem nlg_log {o : Obj} (h : isLog o = true) : isNlg o = true := by
  cases o with
  | cells c T f => simp only [isLog, isNlg, Bool.not_eq_true', Bool.or_eq_false_iff] at h ⊢; exact h.2
  | _ => rfl
theorem nlg_dsk {o : Obj} (h : isDsk o = true) : isNlg o = true := by
  cases o with
  | cells c T f => exact h
  | _ => rfl
theorem Kp.low {p : Obj → Bool} {a b c : World} (h : Kp p a b) (hb : Below a.heap.size b c) : Kp p a c := fun i o hi ho => (hb.block i (heap_lt hi)).trans (h i o hi ho)

/-! ### a log -/
structure LogAt (W : World) (B b d : Nat) (g : Lo) : Prop where
  base : B ≤ b
  box : W.heap[b]? = some (.cells #[.pointer (some ⟨d, 0, none⟩), .string ⟨g.nm.toArray⟩, .int .i64 (g.last : Int), .int .i64 (g.next : Int)] 59 (0, 0))
section
variable {W W' : World} {B b d : Nat} {g : Lo}
theorem LogAt.lt (h : LogAt W B b d g) : b < W.heap.size := heap_lt h.box
theorem LogAt.kp (h : LogAt W B b d g) (k : Kp isRef W W') : LogAt W' B b d g := ⟨h.base, k b _ h.box rfl⟩
theorem LogAt.below (h : LogAt W B b d g) (k : Below W.heap.size W W') : LogAt W' B b d g := h.kp (Kp.below k)
theorem LogAt.disk (h : LogAt W B b d g) : W.cell? ⟨b, 0, none⟩ = some (.pointer (some ⟨d, 0, none⟩)) := (box4 h.box).1.1
theorem LogAt.name (h : LogAt W B b d g) : W.cell? ⟨b, 1, none⟩ = some (.string ⟨g.nm.toArray⟩) := (box4 h.box).1.2.1
theorem LogAt.last (h : LogAt W B b d g) : W.cell? ⟨b, 2, none⟩ = some (.int .i64 (g.last : Int)) := (box4 h.box).1.2.2.1
theorem LogAt.next (h : LogAt W B b d g) : W.cell? ⟨b, 3, none⟩ = some (.int .i64 (g.next : Int)) := (box4 h.box).1.2.2.2
theorem LogAt.set2 (h : LogAt W B b d g) (n : Nat) : LogAt (W.setCell ⟨b, 2, none⟩ (.int .i64 (n : Int))) B b d ⟨g.nm, n, g.next⟩ := ⟨h.base, heap_setCell_same W b 2 _ _ (.int .i64 (n : Int)) h.box⟩
theorem LogAt.set3 (h : LogAt W B b d g) (n : Nat) : LogAt (W.setCell ⟨b, 3, none⟩ (.int .i64 (n : Int))) B b d ⟨g.nm, g.last, n⟩ := ⟨h.base, heap_setCell_same W b 3 _ _ (.int .i64 (n : Int)) h.box⟩
theorem LogAt.gone (h : LogAt W B b d g) {b0 : Nat} {w : World} (hg : Gone isLog b0 w W) (hb : b0 ≤ B) (i : Nat) (v : Value) : Gone isLog b0 w (W.setCell ⟨b, i, none⟩ v) := hg.set h.box rfl (Nat.le_trans hb h.base) v
theorem LogAt.keeps (h : LogAt W B b d g) (i : Nat) (v : Value) : Kp isNlg W (W.setCell ⟨b, i, none⟩ v) := Kp.set h.box rfl v
end

/-- behind some deeds since the world w: the disk is K, the tables lie there -/
def Wa (w : World) (B d : Nat) (K : St) (W : World) : Prop := Hid (DiskAt W B d K ∧ B ≤ w.heap.size ∧ Gone isLog B w W ∧ Tabs B W)
section
variable {w W W' : World} {B b d : Nat} {K K' : St} {g : Lo}
theorem Wa.dsk (h : Wa w B d K W) : DiskAt W B d K := h.out.1
theorem Wa.bel (h : Wa w B d K W) : Below B w W := h.out.2.2.1.bel
theorem Wa.gone (h : Wa w B d K W) : Gone isLog B w W := h.out.2.2.1
theorem Wa.base (h : Wa w B d K W) : B ≤ w.heap.size := h.out.2.1
theorem Wa.size (h : Wa w B d K W) : B ≤ W.heap.size := Nat.le_trans h.out.2.1 h.out.2.2.1.size
theorem Wa.tabs (h : Wa w B d K W) : Tabs B W := h.out.2.2.2
theorem Wa.good (h : Wa w B d K W) : Good W := h.tabs.good
theorem Wa.below (h : Wa w B d K W) (hb : Below W.heap.size W W') : Wa w B d K W' := Lib.hid ⟨h.dsk.below hb, h.base, h.gone.below h.size hb, h.tabs.below hb h.size⟩
theorem Wa.go (h : Wa w B d K W) (hd : DiskAt W' B d K') (hg : Gone isRef B W W') : Wa w B d K' W' := Lib.hid ⟨hd, h.base, h.gone.trans hg.log, h.tabs.below hg.bel (Nat.le_refl _)⟩
theorem Wa.at_ (h : Wa w B d K W) : At W B d K W := At.start h.dsk h.size
theorem Wa.via (h : Wa w B d K W) (k : At W B d K' W') : Wa w B d K' W' := h.go k.out.1 k.out.2.2
theorem Wa.set (h : Wa w B d K W) (l : LogAt W B b d g) (i : Nat) (v : Value) : Wa w B d K (W.setCell ⟨b, i, none⟩ v) :=
  Lib.hid ⟨h.dsk.kp ((l.keeps i v).weak fun _ => nlg_dsk), h.base, l.gone h.gone (Nat.le_refl _) i v, h.tabs.below ((Below.refl B W).setCell l.base v) (Nat.le_refl _)⟩
/-- whoever leaves the disk alone -/
theorem Wa.kept (h : Wa w B d K W) (hk : Kp isNlg W W') (hb : Below B W W') : Wa w B d K W' := Lib.hid ⟨h.dsk.kp (hk.weak fun _ => nlg_dsk), h.base, h.gone.trans ⟨hb, hk.weak fun _ => nlg_log⟩, h.tabs.below hb (Nat.le_refl _)⟩
/-- from the world on in which it is now -/
theorem Wa.here (h : Wa w B d K W) : Wa W B d K W := Lib.hid ⟨h.dsk, h.size, Gone.refl _ _ _, h.tabs⟩
theorem Wa.trans (h : Wa w B d K W) (k : Wa W B d K' W') : Wa w B d K' W' := Lib.hid ⟨k.dsk, h.base, h.gone.trans k.gone, k.tabs⟩
/-- what lies in a block of w that a log's deeds leave -/
theorem Wa.held (h : Wa w B d K W) {i j : Nat} {o : Obj} (hi : w.heap[i]? = some o) (ho : isLog o = true) : W.heap[i]? = some o := h.gone.kp i o hi ho
theorem Wa.logs (h : Wa w B d K W) (l : LogAt w B b d g) (hk : Kp isRef w W) : LogAt W B b d g := l.kp hk
end
end Go.Proofs.YtpafialojcidnaaGreatDoor
