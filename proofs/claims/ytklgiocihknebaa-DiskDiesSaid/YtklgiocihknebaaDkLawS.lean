/- A disk of two files: over lists. -/
import Derived.Test.YtklgiocihknebaaDkLawP
namespace Go.Proofs.Ytklgiocihknebaa
namespace Dk
abbrev n1 : Str := [111, 110, 101]
abbrev n2 : Str := [116, 119, 111]
def two (f g : Fl) : St := ⟨[f, g], none, false⟩
section
variable {a b c : Str} {f : Fl}
theorem append_snd (hc : c.length ≤ 4194304) : append (one ⟨n1, a, b⟩) n2 c = (two ⟨n1, a, b⟩ ⟨n2, [], c⟩, 0) := by
  rw [append_none (by decide) rfl (by simp [look, one]), if_neg (by simp [one]; omega)]
  have h1 : (([111, 110, 101] : Str) < [116, 119, 111]) := by decide
  simp [pay, fits, one, two, ins, h1]
theorem look_snd {g : Fl} (hf : f.name = n1) (hg : g.name = n2) : look (two f g).L n2 = some g := by simp [look, two, hf, hg]
theorem look_fst {g : Fl} (hf : f.name = n1) : look (two f g).L n1 = some f := by simp [look, two, hf]
theorem has_snd {g : Fl} (hg : g.name = n2) : has (two f g).L n2 = true := by simp [has, two, hg]
theorem has_fst {g : Fl} (hf : f.name = n1) : has (two f g).L n1 = true := by simp [has, two, hf]
theorem sync_snd (d : Str) : sync (two ⟨n1, a, b⟩ ⟨n2, [], d⟩) n2 = (two ⟨n1, a, b⟩ ⟨n2, d, []⟩, 0) := by
  have he : err (two ⟨n1, a, b⟩ ⟨n2, [], d⟩) n2 = 0 := by
    unfold err
    rw [has_snd rfl, show bad n2 = false by decide]
    rfl
  unfold sync
  rw [he, if_pos rfl]
  simp [upd, two, Fl.all]
theorem append_snd2 (d e : Str) (h : d.length + e.length ≤ 4194304) : append (two ⟨n1, a, b⟩ ⟨n2, d, []⟩) n2 e = (two ⟨n1, a, b⟩ ⟨n2, d, e⟩, 0) := by
  rw [append_some (by decide) rfl (look_snd rfl rfl), if_neg (by simp [Fl.all]; omega)]
  simp [pay, fits, two, upd]
theorem crash_two (f g : Fl) (n : Int) : crash (two f g) n = two (kept n f) (kept n g) := rfl
theorem err0_two {f g : Fl} (hf : f.name = n1) (hg : g.name = n2) : err0 (two f g) n1 = 0 ∧ err0 (two f g) n2 = 0 := by
  constructor
  · unfold err0
    rw [has_fst hf, show bad n1 = false by decide]
    rfl
  · unfold err0
    rw [has_snd hg, show bad n2 = false by decide]
    rfl
theorem read_fst {f g : Fl} (hf : f.name = n1) (hg : g.name = n2) : read (two f g) n1 = (f.all, 0) := by
  unfold read
  rw [(err0_two hf hg).1, if_pos rfl, look_fst hf]
  rfl
theorem read_snd {f g : Fl} (hf : f.name = n1) (hg : g.name = n2) : read (two f g) n2 = (g.all, 0) := by
  unfold read
  rw [(err0_two hf hg).2, if_pos rfl, look_snd hf hg]
  rfl
theorem size_fst {f g : Fl} (hf : f.name = n1) (hg : g.name = n2) : size (two f g) n1 = (f.all.length, f.sure.length, 0) := by
  unfold size
  rw [(err0_two hf hg).1, if_pos rfl, look_fst hf]
  rfl
theorem size_snd {f g : Fl} (hf : f.name = n1) (hg : g.name = n2) : size (two f g) n2 = (g.all.length, g.sure.length, 0) := by
  unfold size
  rw [(err0_two hf hg).2, if_pos rfl, look_snd hf hg]
  rfl
theorem kept_all (n : Int) (s a b : Str) : (kept n ⟨s, a, b⟩).all = a ++ b.take n.toNat ∧ (kept n ⟨s, a, b⟩).sure = a ++ b.take n.toNat ∧ (kept n ⟨s, a, b⟩).name = s := by simp [kept, Fl.all]
end
end Dk
end Go.Proofs.Ytklgiocihknebaa
