/- wal's names: file, number, may. -/
import Derived.Test.YtpafialojcidnaaGreatDoorWlMem
import Derived.Test.YtpafialojcidnaaGreatDoorWlMade
namespace Go.Proofs.YtpafialojcidnaaGreatDoor
open Go.RowKit Dk
open Wl (Lo)
set_option linter.unusedVariables false

theorem itoa_any (n : Nat) (w : World) (hn : n ≤ 99999999) {B : Nat} (ht : Tabs B w) :
    Calls Tryz.prog 63 #[.int .i64 (100000000 + (n : Int))] w fun e w' => e = .returned (.string ⟨(49 :: Wl.dg 8 n).toArray⟩) ∧ Below w.heap.size w w' := by
  refine (Tryz.strconv_Itoa (100000000 + (n : Int)) (by omega) (by omega) w ht.out.2.1).mono ?_
  rintro e w' ⟨rfl, k, os, rfl⟩
  exact ⟨by rw [Wl.itoa_cut hn], Go.Proofs.below_grown _ _ _⟩
theorem file_split (nm : Str) (n : Nat) : Wl.file nm n = (nm ++ [46]) ++ Wl.dg 8 n := by simp [Wl.file]

set_option maxHeartbeats 2000000 in
set_option maxRecDepth 100000 in
theorem file_any (w : World) {B b d : Nat} {g : Lo} (h : LogAt w B b d g) (ht : Tabs B w) (hB : B ≤ w.heap.size) (hnm : g.nm.length ≤ 16) (n : Nat) (hn : n ≤ 99999999) :
    Calls Tryz.prog 43 #[.pointer (some ⟨b, 0, none⟩), .int .i64 (n : Int)] w fun e w' => e = .returned (.string ⟨(Wl.file g.nm n).toArray⟩) ∧ Below w.heap.size w w' := by
  obtain ⟨nm, last, next⟩ := g
  have hlt := h.lt
  have k1 : w.cell? ⟨b, 1, none⟩ = some (.string ⟨nm.toArray⟩) := h.name
  have hnm : nm.length ≤ 16 := hnm
  have I := Lib.hid (fun (p : Lat grows w) => itoa_any n p.W hn (ht.below p.h hB))
  obtain ⟨ds, hds⟩ : ∃ ds, ds = Wl.dg 8 n := ⟨_, rfl⟩
  have hw : IntKind.i64.wrap (100000000 + (n : Int)) = 100000000 + (n : Int) := IntWalk.i64_in _ ⟨by omega, by omega⟩
  have hdl : ds.length = 8 := by rw [hds, Wl.dg_len]
  have e1 : ∀ W : World, (Op.stringOp .add ⟨nm.toArray⟩ ⟨#[46]⟩).run Tryz.prog W = .ok (.string ⟨(nm ++ [46]).toArray⟩) W := sum_two nm [46] (by simp; omega)
  have e2 := sum_two (nm ++ [46]) ds (by rw [List.length_append, hdl]; simp; omega)
  have hcut : (ByteArray.mk (49 :: ds).toArray).extract 1 (ds.length + 1) = ⟨ds.toArray⟩ := by rw [cutb]; simp
  rw [file_split, ← hds]
  rw [← hds] at I
  generalize nm ++ [46] = np at *
  have HC := Lib.hid hcut
  have HD := Lib.hid hdl
  clear h ht hnm hds hcut hdl
  go_enter Tryz.func43, Tryz.ntmps43
  go_wp2_with fail
  refine Og.grow 11 (by kernel_rfl) (by kernel_rfl) fun hc hf => ?_
  simp only [List.take_succ_cons, List.take_zero, List.drop_succ_cons, List.drop_zero]
  repeat (refine Og.det [] rfl (fun K hK => ?_); go_simp; first | (refine hK _ _ ?_; clear hK K) | (with_reducible refine ⟨_, fun p => Og.lays (I.out p), hK _ _ ?_⟩; clear hK K))
  refine Og.det [] rfl (fun K hK => ?_)
  go_simp
  have hle : (1 : Int) ≤ (ds.length : Int) + 1 := by omega
  simp only [hle, if_true, HC.out]
  go_simp
  refine hK _ _ ?_
  clear hK K
  repeat (refine Og.det [] rfl (fun K hK => ?_); go_simp; refine hK _ _ ?_; clear hK K)
  refine Og.fin fun W hW => ?_
  simp only [Og.opened_nil]
  clear hc hf
  go_wp2
  go_ret
  exact ⟨rfl, hW⟩

/-! ### number -/
theorem pre_file (nm : Str) (n : Nat) : Lib.hasPrefix (Wl.file nm n) (nm ++ [46]) = true ∧ Lib.trimPrefix (Wl.file nm n) (nm ++ [46]) = Wl.dg 8 n := by
  have h : Lib.hasPrefix (Wl.file nm n) (nm ++ [46]) = true := by
    unfold Lib.hasPrefix
    rw [List.isPrefixOf_iff_prefix, file_split]
    exact List.prefix_append _ _
  refine ⟨h, ?_⟩
  unfold Lib.trimPrefix
  rw [if_pos h, file_split, List.drop_left' rfl]
def digs : Str := [48, 49, 50, 51, 52, 53, 54, 55, 56, 57]
theorem mem_digs (c : UInt8) (h1 : 48 ≤ c.toNat) (h2 : c.toNat ≤ 57) : c ∈ digs := by
  have : c = UInt8.ofNat c.toNat := by simp
  rw [this]
  have : c.toNat = 48 ∨ c.toNat = 49 ∨ c.toNat = 50 ∨ c.toNat = 51 ∨ c.toNat = 52 ∨ c.toNat = 53 ∨ c.toNat = 54 ∨ c.toNat = 55 ∨ c.toNat = 56 ∨ c.toNat = 57 := by omega
  rcases this with h | h | h | h | h | h | h | h | h | h <;> rw [h] <;> decide
theorem dg_digs (n : Nat) : ∀ c ∈ Wl.dg 8 n, c.toNat < 128 ∧ c ∈ digs := fun c hc => by
  have := List.all_eq_true.1 (Wl.dg_dig 8 n) c hc
  simp only [Wl.isDig, Bool.and_eq_true, decide_eq_true_eq] at this
  exact ⟨by omega, mem_digs c this.1 this.2⟩

set_option maxHeartbeats 2000000 in
set_option maxRecDepth 100000 in
theorem lnum_any (w : World) {B b d : Nat} {g : Lo} (h : LogAt w B b d g) (hnm : g.nm.length ≤ 16) (n : Nat) (hn : n ≤ 99999999) :
    Calls Tryz.prog 41 #[.pointer (some ⟨b, 0, none⟩), .string ⟨(Wl.file g.nm n).toArray⟩] w fun e w' => e = .returned (.tuple #[.int .i64 (n : Int), .bool true]) ∧ Below w.heap.size w w' := by
  obtain ⟨nm, last, next⟩ := g
  have k1 : w.cell? ⟨b, 1, none⟩ = some (.string ⟨nm.toArray⟩) := h.name
  have hnm : nm.length ≤ 16 := hnm
  have e1 : ∀ W : World, (Op.stringOp .add ⟨nm.toArray⟩ ⟨#[46]⟩).run Tryz.prog W = .ok (.string ⟨(nm ++ [46]).toArray⟩) W := sum_two nm [46] (by simp; omega)
  obtain ⟨p1, p2⟩ := pre_file nm n
  have C := fun W => Tryz.strings_CutPrefix ⟨(Wl.file nm n).toArray⟩ ⟨(nm ++ [46]).toArray⟩ W
  have C : Hid (∀ W, Calls Tryz.prog 61 #[.string ⟨(Wl.file nm n).toArray⟩, .string ⟨(nm ++ [46]).toArray⟩] W fun e w' => e = .returned (.tuple #[.string ⟨(Wl.dg 8 n).toArray⟩, .bool true]) ∧ w' = W) := Lib.hid fun W => by
    have := C W
    simp only [p1, p2] at this
    exact this
  have hl : ((Wl.dg 8 n).length : Int) = 8 := by rw [Wl.dg_len]; rfl
  have M := Lib.hid (fun W => made_any (Wl.dg 8 n) digs W (dg_digs n) (by rw [Wl.dg_len]; decide))
  have A : Hid (∀ W, Calls Tryz.prog 62 #[.string ⟨(Wl.dg 8 n).toArray⟩] W fun e w' => e = .returned (.tuple #[.int .i64 (n : Int), .nilIface]) ∧ Below W.heap.size W w') := Lib.hid fun W => by
    refine (Tryz.strconv_Atoi_ok ⟨(Wl.dg 8 n).toArray⟩ (by show (Wl.dg 8 n).toArray.size ≤ _; rw [List.size_toArray, Wl.dg_len]; decide) (n : Int) (Wl.atoi_dg hn) W).mono ?_
    rintro e w' ⟨rfl, rfl | ⟨t, rfl⟩⟩
    · exact ⟨rfl, Below.refl _ _⟩
    · refine ⟨rfl, ?_, ?_, ?_, by rw [Lib.bytesWorld_size]; omega, fun k hk => Lib.bytesWorld_at_old W _ _ k hk⟩ <;> (unfold Lib.bytesWorld World.freeze; split <;> rfl)
  generalize nm ++ [46] = np at *
  generalize Wl.file nm n = fl at *
  generalize Wl.dg 8 n = ds at *
  clear h hnm p1 p2 hn
  go_enter Tryz.func41, Tryz.ntmps41
  go_wp2_with (first
    | (go_at_call 61; refine (C.out _).mono ?_; rintro e w' ⟨rfl, rfl⟩)
    | (go_at_call 58; refine (M.out _).mono ?_; rintro e w1 ⟨rfl, b1⟩)
    | (go_at_call 62; refine (A.out _).mono ?_; rintro e w2 ⟨rfl, b2⟩))
  refine Og.grow 5 (by kernel_rfl) (by kernel_rfl) fun hc hf => ?_
  simp only [List.take_succ_cons, List.take_zero, List.drop_succ_cons, List.drop_zero]
  repeat (refine Og.det [] rfl (fun K hK => ?_); go_simp; refine hK _ _ ?_; clear hK K)
  refine Og.fin fun W hW => ?_
  simp only [Og.opened_nil]
  clear hc hf
  go_wp2
  go_ret2
  exact ⟨rfl, b1.trans ((b2.trans (hW.mono b2.size)).mono b1.size)⟩

/-! ### may -/
def lets : Str := [97, 98, 99, 100, 101, 102, 103, 104, 105, 106, 107, 108, 109, 110, 111, 112, 113, 114, 115, 116, 117, 118, 119, 120, 121, 122, 48, 49, 50, 51, 52, 53, 54, 55, 56, 57]
set_option maxHeartbeats 2000000 in
set_option maxRecDepth 100000 in
theorem lmay_any (nm : Str) (w : World) (h1 : 1 ≤ nm.length) (h2 : nm.length ≤ 16) (h3 : ∀ c ∈ nm, c.toNat < 128 ∧ c ∈ lets) :
    Calls Tryz.prog 33 #[.string ⟨nm.toArray⟩] w fun e w' => e = .returned (.bool true) ∧ Below w.heap.size w w' := by
  have M := Lib.hid (made_any nm lets w h3 (by omega))
  have t1 : decide ((1 : Int) ≤ (nm.length : Int)) = true := decide_eq_true (by omega)
  have t2 : decide ((nm.length : Int) ≤ 16) = true := decide_eq_true (by omega)
  clear h3
  go_enter Tryz.func33, Tryz.ntmps33
  go_wp2_with (go_at_call 58; refine M.out.mono ?_; rintro e w1 ⟨rfl, b1⟩)
  go_ret
  exact ⟨rfl, b1⟩
end Go.Proofs.YtpafialojcidnaaGreatDoor
