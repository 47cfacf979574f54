/- New, Sync, Read, Size, Truncate, Remove, Rename, Cut, Dead. -/
import Derived.Test.YtpafialojcidnaaGreatDoorDkApp2
import Derived.BigQuiet
namespace Go.Proofs.YtpafialojcidnaaGreatDoor
open Go.RowKit Go.Maps Dk
set_option linter.unusedVariables false

theorem conv_nil (w : World) : (convert 48 9 (.slice none 0 0)).run Tryz.prog w = .ok (.string ⟨#[]⟩) w := by
  exact run_convert_bytes_nil (P := Tryz.prog) w 48 5 Tryz.underlying48 Tryz.underlying5 0 0 9 Tryz.underlying9
theorem conv_row {w : World} {B n : Nat} {v : Value} {l : Str} (h : w.ownsRow B 5 1 v n (Lib.byteCells l)) : (convert 48 9 v).run Tryz.prog w = .ok (.string ⟨l.toArray⟩) w := by
  have hn : l.length = n := by have := h.1; rw [Lib.byteCells_length, Nat.mul_one] at this; exact this
  rcases h.2 with ⟨rfl, hn0⟩ | ⟨g, cap, cur, rfl, hbase, hb, _⟩
  · obtain rfl : l = [] := List.length_eq_zero_iff.1 (hn.trans hn0)
    exact conv_nil w
  · subst hn
    refine run_convert_bytes_back (P := Tryz.prog) w 48 9 5 ⟨g, 0, none⟩ cap l Tryz.underlying48 Tryz.underlying5 Tryz.underlying9 (fun j hj => ?_)
    exact h.cells (g := g) rfl j _ (by simp [Lib.byteCells, List.getElem?_eq_getElem hj])

section
variable {w : World} {B d : Nat} {K : St} {φ : Str → Nat × Value} {mv : Value}
/-- what is not, is refused -/
theorem open_bad (h : Lay w B d K φ mv) (s : Str) (hs : s.length ≤ 140737488351232) (h0 : err K s ≠ 0) :
    ∃ n : Int, n = (err K s : Nat) ∧ n ≠ 0 ∧ ∃ fv, Calls Tryz.prog 49 #[.pointer (some ⟨d, 0, none⟩), .string ⟨s.toArray⟩] w fun e w' => e = .returned (.tuple #[fv, .int .i64 n]) ∧ w = w' :=
  ⟨_, rfl, by omega, _, open_any s w h (by omega)⟩
/-- what is sure of a file is another number -/
theorem Lay.sured (h : Lay w B d K φ mv) {f : Fl} (hf : f ∈ K.L) : Lay (w.setCell ⟨(φ f.name).1, 1, none⟩ (.int .i64 (f.all.length : Int))) B d { K with L := upd K.L f.name fun f => ⟨f.name, f.all, []⟩ } (up φ f.name (φ f.name)) mv ∧ Gone isRef B w (w.setCell ⟨(φ f.name).1, 1, none⟩ (.int .i64 (f.all.length : Int))) := by
  have F := h.file f hf
  have e1 : (⟨f.name, f.all, []⟩ : Fl).all = f.all := by simp [Fl.all]
  refine ⟨h.filed hf (g := fun f => ⟨f.name, f.all, []⟩) (fun a e => e) rfl ⟨F.base, heap_setCell_same w _ 1 _ _ _ F.box, ?_⟩ (fun b hb => .inl hb) (fun b hb hof => Below.heap_setCell _ _ _ _ (fun e => hof (.inl e))) (ok_upd h.ok (fun _ => rfl) (fun f => by simp [Fl.all])), (Gone.refl _ _ _).set F.box (isRef_f _) F.base _⟩
  rw [e1]
  refine row_kept F.row fun b hb => Below.heap_setCell _ _ _ _ ?_
  obtain ⟨_, cs, h2⟩ := row_block F.row hb
  exact ne_heap h2 F.box (by intro e; injection e with _ e2; cases e2)
end

set_option maxHeartbeats 4000000 in
set_option maxRecDepth 100000 in
theorem sync_any (w : World) {B d : Nat} {K : St} (h : DiskAt w B d K) (s : Str) (hs : s.length ≤ 140737488351232) :
    Calls Tryz.prog 48 #[.pointer (some ⟨d, 0, none⟩), .string ⟨s.toArray⟩] w fun e w' => e = .returned (.int .i64 ((Dk.sync K s).2 : Nat)) ∧ DiskAt w' B d (Dk.sync K s).1 ∧ Gone isRef B w w' := by
  have h' := h
  obtain ⟨φ, mv, h⟩ := h
  unfold Dk.sync
  by_cases h0 : err K s = 0
  · have O := open_any s w h (by omega)
    simp only [if_pos h0]
    obtain ⟨hb, hd, f, hl, hf, rfl⟩ := err_look h0
    rw [h0, fp_yes] at O
    rw [h0]
    have O := Lib.hid O
    obtain ⟨⟨f0, f1⟩, _, z1⟩ := box2 (h.file f hf).box
    obtain ⟨A, c, hform⟩ := row_form (h.file f hf).row
    have hsm := h.ok.small f hf
    have hs1 : (f.all.length : Int) ≤ 4194304 := by omega
    obtain ⟨hL, hG⟩ := h.sured hf
    have HL : Hid (DiskAt (w.setCell ⟨(φ f.name).1, 1, none⟩ (.int .i64 (f.all.length : Int))) B d { K with L := upd K.L f.name fun f => ⟨f.name, f.all, []⟩ }) := Lib.hid ⟨_, _, hL⟩
    have HG := Lib.hid hG
    rw [hform] at f0
    clear h h' hs h0 hl hf hform hsm hL hG hb hd
    generalize (φ f.name).1 = fb at *
    generalize f.all.length = n at *
    go_enter Tryz.func48, Tryz.ntmps48
    go_wp2_with (go_at_call 49; refine O.out.mono ?_; rintro e w' ⟨rfl, rfl⟩)
    go_ret
    exact ⟨rfl, HL.out, HG.out⟩
  · simp only [if_neg h0]
    obtain ⟨n, hn, hn0, fv, hO⟩ := open_bad h s hs h0
    rw [← hn]
    have O := Lib.hid hO
    have HL := Lib.hid h'
    clear hO h h' hn h0 hs
    go_enter Tryz.func48, Tryz.ntmps48
    go_wp2_with (go_at_call 49; refine O.out.mono ?_; rintro e w' ⟨rfl, rfl⟩)
    go_ret
    exact ⟨rfl, HL.out, Gone.refl _ _ _⟩

theorem read_yes {K : St} {s : Str} {f : Fl} (h : err0 K s = 0) (hl : Dk.look K.L s = some f) : Dk.read K s = (f.all, 0) := by simp [Dk.read, h, hl]
theorem read_no {K : St} {s : Str} (h : err0 K s ≠ 0) : Dk.read K s = ([], err0 K s) := by simp [Dk.read, h]
theorem size_yes {K : St} {s : Str} {f : Fl} (h : err0 K s = 0) (hl : Dk.look K.L s = some f) : Dk.size K s = (f.all.length, f.sure.length, 0) := by simp [Dk.size, h, hl]
theorem size_no {K : St} {s : Str} (h : err0 K s ≠ 0) : Dk.size K s = (0, 0, err0 K s) := by simp [Dk.size, h]
theorem find_bad {w : World} {B d : Nat} {K : St} {φ : Str → Nat × Value} {mv : Value} (h : Lay w B d K φ mv) (s : Str) (hs : s.length ≤ 140737488351232) (h0 : err0 K s ≠ 0) :
    ∃ n : Int, n = (err0 K s : Nat) ∧ n ≠ 0 ∧ ∃ fv, Calls Tryz.prog 46 #[.pointer (some ⟨d, 0, none⟩), .string ⟨s.toArray⟩] w fun e w' => e = .returned (.tuple #[fv, .int .i64 n]) ∧ w = w' :=
  ⟨_, rfl, by omega, _, find_any s w h (by omega)⟩

set_option maxHeartbeats 4000000 in
set_option maxRecDepth 100000 in
theorem read_any (w : World) {B d : Nat} {K : St} (h : DiskAt w B d K) (s : Str) (hs : s.length ≤ 140737488351232) :
    Calls Tryz.prog 22 #[.pointer (some ⟨d, 0, none⟩), .string ⟨s.toArray⟩] w fun e w' => e = .returned (.tuple #[.string ⟨(Dk.read K s).1.toArray⟩, .int .i64 ((Dk.read K s).2 : Nat)]) ∧ w = w' := by
  obtain ⟨φ, mv, h⟩ := h
  by_cases h0 : err0 K s = 0
  · have O := find_any s w h (by omega)
    obtain ⟨hb, f, hl, hf, rfl⟩ := err0_look h0
    rw [read_yes h0 hl]
    rw [h0, fp_yes] at O
    have O := Lib.hid O
    obtain ⟨⟨f0, f1⟩, _⟩ := box2 (h.file f hf).box
    have C := conv_row (h.file f hf).row
    clear h hs h0 hl hf hb
    generalize f.all = u at *
    generalize (φ f.name).1 = fb at *
    generalize (φ f.name).2 = v at *
    go_enter Tryz.func22, Tryz.ntmps22
    go_wp2_with (go_at_call 46; refine O.out.mono ?_; rintro e w' ⟨rfl, rfl⟩)
    go_ret2
    exact ⟨rfl, rfl⟩
  · rw [read_no h0]
    obtain ⟨n, hn, hn0, fv, hO⟩ := find_bad h s hs h0
    rw [← hn]
    have O := Lib.hid hO
    clear hO h hn h0 hs
    go_enter Tryz.func22, Tryz.ntmps22
    go_wp2_with (go_at_call 46; refine O.out.mono ?_; rintro e w' ⟨rfl, rfl⟩)
    go_ret2
    exact ⟨rfl, rfl⟩

set_option maxHeartbeats 4000000 in
set_option maxRecDepth 100000 in
theorem size_any (w : World) {B d : Nat} {K : St} (h : DiskAt w B d K) (s : Str) (hs : s.length ≤ 140737488351232) :
    Calls Tryz.prog 69 #[.pointer (some ⟨d, 0, none⟩), .string ⟨s.toArray⟩] w fun e w' => e = .returned (.tuple #[.int .i64 ((Dk.size K s).1 : Nat), .int .i64 ((Dk.size K s).2.1 : Nat), .int .i64 ((Dk.size K s).2.2 : Nat)]) ∧ Below w.heap.size w w' := by
  obtain ⟨φ, mv, h⟩ := h
  by_cases h0 : err0 K s = 0
  · have O := find_any s w h (by omega)
    obtain ⟨hb, f, hl, hf, rfl⟩ := err0_look h0
    rw [size_yes h0 hl]
    rw [h0, fp_yes] at O
    have O := Lib.hid O
    obtain ⟨⟨f0, f1⟩, _⟩ := box2 (h.file f hf).box
    obtain ⟨A, c, hform⟩ := row_form (h.file f hf).row
    rw [hform] at f0
    clear h hs h0 hl hf hb hform
    generalize f.all.length = u at *
    generalize f.sure.length = u1 at *
    generalize (φ f.name).1 = fb at *
    go_enter Tryz.func69, Tryz.ntmps69
    go_wp2_with (go_at_call 46; refine O.out.mono ?_; rintro e w' ⟨rfl, rfl⟩)
    go_quiet (fail)
    go_wp2
    go_ret3
    exact ⟨rfl, below_dn _ _⟩
  · rw [size_no h0]
    obtain ⟨n, hn, hn0, fv, hO⟩ := find_bad h s hs h0
    rw [← hn]
    have O := Lib.hid hO
    clear hO h hn h0 hs
    go_enter Tryz.func69, Tryz.ntmps69
    go_wp2_with (go_at_call 46; refine O.out.mono ?_; rintro e w' ⟨rfl, rfl⟩)
    go_ret3
    exact ⟨rfl, Below.refl _ _⟩
end Go.Proofs.YtpafialojcidnaaGreatDoor
