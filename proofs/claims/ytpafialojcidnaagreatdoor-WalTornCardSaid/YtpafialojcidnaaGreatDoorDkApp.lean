/- Append: what it answers, and what the disk is behind it. -/
import Derived.Test.YtpafialojcidnaaGreatDoorDkLay2
namespace Go.Proofs.YtpafialojcidnaaGreatDoor
open Go.RowKit Go.Maps Dk
set_option linter.unusedVariables false

theorem fp_yes (φ : Str → Nat × Value) (s : Str) : fp φ s 0 = .pointer (some ⟨(φ s).1, 0, none⟩) := rfl
set_option maxHeartbeats 4000000 in
set_option maxRecDepth 100000 in
theorem append_bad (w : World) {B d : Nat} {K : St} {φ : Str → Nat × Value} {mv : Value} (h : Lay w B d K φ mv) (s t : Str) (hs : s.length ≤ 140737488351232) (ht : t.length ≤ 140737488351232) (h0 : err K s ≠ 0) (h6 : err K s ≠ 6) :
    Calls Tryz.prog 26 #[.pointer (some ⟨d, 0, none⟩), .string ⟨s.toArray⟩, .string ⟨t.toArray⟩] w fun e w' => e = .returned (.int .i64 (err K s : Nat)) ∧ w = w' := by
  have O := Lib.hid (open_any s w h (by omega))
  clear h hs
  generalize fp φ s (err K s) = fv at *
  rcases err_of K s with he | he | he | he <;> rw [he] at O h0 h6 ⊢
  · exact absurd rfl h0
  · clear h0 h6 he
    go_enter Tryz.func26, Tryz.ntmps26
    go_wp2_with (go_at_call 49; refine O.out.mono ?_; rintro e w' ⟨rfl, rfl⟩)
    go_ret
    exact ⟨rfl, rfl⟩
  · exact absurd rfl h6
  · clear h0 h6 he
    go_enter Tryz.func26, Tryz.ntmps26
    go_wp2_with (go_at_call 49; refine O.out.mono ?_; rintro e w' ⟨rfl, rfl⟩)
    go_ret
    exact ⟨rfl, rfl⟩

set_option maxHeartbeats 4000000 in
set_option maxRecDepth 100000 in
theorem append_old (w : World) {B d : Nat} {K : St} {φ : Str → Nat × Value} {mv : Value} (h : Lay w B d K φ mv) (hB : B ≤ w.heap.size) (s t : Str) (hs : s.length ≤ 140737488351232) (ht : t.length ≤ 140737488351232) (h0 : err K s = 0) :
    Calls Tryz.prog 26 #[.pointer (some ⟨d, 0, none⟩), .string ⟨s.toArray⟩, .string ⟨t.toArray⟩] w fun e w' => e = .returned (.int .i64 ((Dk.append K s t).2 : Nat)) ∧ DiskAt w' B d (Dk.append K s t).1 ∧ Gone isRef B w w' := by
  have O := open_any s w h (by omega)
  obtain ⟨hb, hd, f, hl, hf, rfl⟩ := err_look h0
  rw [h0, fp_yes] at O
  have O := Lib.hid O
  obtain ⟨⟨f0, _⟩, _⟩ := box2 (h.file f hf).box
  obtain ⟨A, c, hform⟩ := row_form (h.file f hf).row
  have hsm := h.ok.small f hf
  have hs1 : (f.all.length : Int) ≤ 4194304 := by omega
  rw [hform] at f0
  by_cases hfull : 4194304 < f.all.length + t.length
  · have e1 : Dk.append K f.name t = (K, 8) := by rw [append_some hb hd hl, if_pos hfull]
    have hfull' : (f.all.length : Int) + (t.length : Int) > 4194304 := by omega
    have HL := Lib.hid (⟨φ, mv, h⟩ : DiskAt w B d K)
    have HG := Lib.hid (Gone.refl isRef B w)
    rw [e1]
    clear h hB hs h0 hl hf hfull e1 hform hsm
    generalize (φ f.name).1 = fb at *
    generalize f.all.length = n at *
    go_enter Tryz.func26, Tryz.ntmps26
    go_wp2_with (go_at_call 49; refine O.out.mono ?_; rintro e w' ⟨rfl, rfl⟩)
    go_ret
    exact ⟨rfl, HL.out, HG.out⟩
  · have e1 : Dk.append K f.name t = ({ pay K t with L := upd K.L f.name fun f => { f with loose := f.loose ++ fits K.room t } }, if (pay K t).dead then 12 else 0) := by rw [append_some hb hd hl, if_neg hfull]
    have hfull' : ¬ ((f.all.length : Int) + (t.length : Int) > 4194304) := by omega
    have P := Lib.hid (put_again w h hB hf)
    have LY := Lib.hid (fun (w' : World) (h' : Lay w' B d K φ mv) (hB' : B ≤ w'.heap.size) => lay_any w' h' hB' hf t (by omega) hd)
    have HB := Lib.hid hB
    rw [e1]
    generalize ({ pay K t with L := upd K.L f.name fun f => { f with loose := f.loose ++ fits K.room t } } : St) = K2 at *
    generalize (if (pay K t).dead then 12 else 0 : Nat) = r at *
    clear h hB hs h0 hl hf hfull e1 hform hsm
    generalize (φ f.name).1 = fb at *
    generalize f.all.length = n at *
    go_enter Tryz.func26, Tryz.ntmps26
    go_wp2_with (first
      | (go_at_call 49; refine O.out.mono ?_; rintro e w' ⟨rfl, rfl⟩)
      | (go_at_call 38; refine P.out.mono ?_; rintro e w1 ⟨rfl, hk1, hk2⟩; have HK1 := Lib.hid hk1; have HK2 := Lib.hid hk2; clear hk1 hk2)
      | (go_at_call 52; refine (LY.out _ HK1.out (Nat.le_trans HB.out HK2.out.size)).mono ?_; rintro e w2 ⟨rfl, hj1, hj2⟩; have HJ1 := Lib.hid hj1; have HJ2 := Lib.hid hj2; clear hj1 hj2))
    go_ret
    exact ⟨rfl, HJ1.out, HK2.out.trans HJ2.out⟩
end Go.Proofs.YtpafialojcidnaaGreatDoor
