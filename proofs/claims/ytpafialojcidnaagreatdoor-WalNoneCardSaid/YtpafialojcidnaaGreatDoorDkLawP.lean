/- A disk of one file; three deeds on a fresh name: over lists. -/
import Derived.Test.YtpafialojcidnaaGreatDoorDkPure
namespace Go.Proofs.YtpafialojcidnaaGreatDoor
namespace Dk
def one (f : Fl) : St := ⟨[f], none, false⟩
theorem bad_one {s : Str} (h : bad s = true) (t : Str) : append new s t = (new, 1) := by simp [append, h]
theorem append_one {s t : Str} (h : bad s = false) (ht : t.length ≤ 4194304) : append new s t = (one ⟨s, [], t⟩, 0) := by
  rw [append_none h rfl rfl, if_neg (by simp [new]; omega)]
  simp [pay, fits, one, new, ins]
theorem look_one (f : Fl) : look (one f).L f.name = some f := by simp [look, one]
theorem has_one (f : Fl) (s : Str) : has (one f).L s = (f.name == s) := by simp [has, one]
theorem err_one {f : Fl} (h : bad f.name = false) : err (one f) f.name = 0 := by simp [err, h, one, has]
theorem err0_one {f : Fl} (h : bad f.name = false) : err0 (one f) f.name = 0 := by simp [err0, h, has_one]
theorem upd_one (f : Fl) (g : Fl → Fl) : upd (one f).L f.name g = [g f] := by simp [upd, one]
theorem sync_one {f : Fl} (h : bad f.name = false) : sync (one f) f.name = (one ⟨f.name, f.all, []⟩, 0) := by
  unfold sync
  rw [err_one h, if_pos rfl, upd_one]
  rfl
theorem append_two {f : Fl} {t : Str} (h : bad f.name = false) (ht : f.all.length + t.length ≤ 4194304) : append (one f) f.name t = (one { f with loose := f.loose ++ t }, 0) := by
  rw [append_some h rfl (look_one f), if_neg (by omega), upd_one]
  simp [pay, fits, one]
theorem append_full {f : Fl} {t : Str} (h : bad f.name = false) (ht : 4194304 < f.all.length + t.length) : append (one f) f.name t = (one f, 8) := by
  rw [append_some h rfl (look_one f), if_pos ht]
theorem read_one {f : Fl} (h : bad f.name = false) : read (one f) f.name = (f.all, 0) := by
  unfold read
  rw [err0_one h, if_pos rfl, look_one]
  rfl
theorem size_one {f : Fl} (h : bad f.name = false) : size (one f) f.name = (f.all.length, f.sure.length, 0) := by
  unfold size
  rw [err0_one h, if_pos rfl, look_one]
  rfl
theorem crash_one (f : Fl) (n : Int) : crash (one f) n = one (kept n f) := rfl
theorem trunc_one {f : Fl} (h : bad f.name = false) {n : Int} (hn : ¬ (n < 0 ∨ (f.all.length : Int) < n)) : trunc (one f) f.name n = (one (cutAt n.toNat f), 0) := by
  unfold trunc
  rw [err_one h, if_neg (by simp), look_one]
  simp only [Option.map_some, Option.getD_some]
  rw [if_neg hn, upd_one]
  rfl
theorem trunc_bad {f : Fl} (h : bad f.name = false) {n : Int} (hn : n < 0 ∨ (f.all.length : Int) < n) : trunc (one f) f.name n = (one f, 5) := by
  unfold trunc
  rw [err_one h, if_neg (by simp), look_one]
  simp only [Option.map_some, Option.getD_some]
  rw [if_pos hn]
theorem rename_bad {f : Fl} {t : Str} (h : bad f.name = false) (ht : bad t = true) : rename (one f) f.name t = (one f, 1) := by
  unfold rename
  rw [err_one h, if_neg (by simp), if_pos ht]
theorem rename_same {f : Fl} (h : bad f.name = false) : rename (one f) f.name f.name = (one f, 7) := by
  unfold rename
  rw [err_one h, if_neg (by simp), if_neg (by simp [h]), if_pos (by simp [has_one])]
theorem rename_one {f : Fl} {t : Str} (h : bad f.name = false) (ht : bad t = false) (hne : f.name ≠ t) : rename (one f) f.name t = (one { f with name := t }, 0) := by
  unfold rename
  rw [err_one h, if_neg (by simp), if_neg (by simp [ht]), if_neg (by simp [has_one, hne]), look_one]
  simp [del, one, ins]
theorem read_none {f : Fl} {s : Str} (h : bad s = false) (hne : f.name ≠ s) : read (one f) s = ([], 6) := by
  simp [read, err0, h, has_one, hne]
end Dk
end Go.Proofs.YtpafialojcidnaaGreatDoor
