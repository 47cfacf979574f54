/- A disk that fills up: over lists. -/
import Derived.Test.YtklgiocihknebaaDkLawP
namespace Go.Proofs.Ytklgiocihknebaa
namespace Dk
def nmR (j : Nat) : Str := [110, UInt8.ofNat (48 + j / 10), UInt8.ofNat (48 + j % 10)]
theorem nmR_inj {i j : Nat} (hi : i < 64) (hj : j < 64) (h : nmR i = nmR j) : i = j := by
  have : ∀ i : Fin 64, ∀ j : Fin 64, nmR i = nmR j → i = j := by decide +kernel
  exact congrArg Fin.val (this ⟨i, hi⟩ ⟨j, hj⟩ h)
theorem nmR_f (j : Nat) : nmR j ≠ [102] := by simp [nmR]
theorem nmR_bad (j : Nat) : bad (nmR j) = false := by simp [bad, nmR]
/-- the file f and those from 1 to i - 1, which are empty -/
structure Rm (i : Nat) (K : St) : Prop where
  dead : K.dead = false
  room : K.room = none
  len : K.L.length = i
  sorted : Sorted K.L
  has : ∀ t, has K.L t = true ↔ (t = [102] ∨ ∃ j, 1 ≤ j ∧ j < i ∧ t = nmR j)
  empty : ∀ f ∈ K.L, f.name ≠ [102] → f.all = []
theorem rm_first (f : Fl) (h : f.name = [102]) : Rm 1 (one f) where
  dead := rfl
  room := rfl
  len := rfl
  sorted := List.pairwise_singleton _ _
  has t := by
    rw [has_one, h]
    constructor
    · intro e; exact .inl (beq_iff_eq.1 e).symm
    · rintro (rfl | ⟨j, h1, h2, _⟩)
      · rfl
      · omega
  empty g hg hn := by
    obtain rfl : g = f := by simpa [one] using hg
    exact absurd h hn
theorem rm_step {i : Nat} {K : St} (h : Rm i K) (h1 : 1 ≤ i) (hi : i < 64) : ∃ K', append K (nmR i) [] = (K', 0) ∧ Rm (i + 1) K' := by
  have hno : Dk.has K.L (nmR i) = false := by
    rw [← Bool.not_eq_true, h.has]
    rintro (e | ⟨j, _, h3, e⟩)
    · exact nmR_f i e
    · have := nmR_inj hi (by omega) e; omega
  have e : append K (nmR i) [] = ({ K with L := ins K.L ⟨nmR i, [], []⟩ }, 0) := by
    rw [append_none (nmR_bad i) h.dead (look_none.2 hno), if_neg (by rw [h.len]; simp; omega)]
    have hd := h.dead
    have hr := h.room
    obtain ⟨L, r, dd⟩ := K
    simp only at hd hr
    subst hd hr
    simp [pay, fits]
  refine ⟨_, e, h.dead, h.room, by rw [ins_len, h.len], ins_sorted h.sorted hno, fun t => ?_, fun f hf hn => ?_⟩
  · rw [ins_has, Bool.or_eq_true, h.has, beq_iff_eq]
    constructor
    · rintro ((rfl | ⟨j, a, b, c⟩) | c)
      · exact .inl rfl
      · exact .inr ⟨j, a, by omega, c⟩
      · exact .inr ⟨i, h1, by omega, c⟩
    · rintro (rfl | ⟨j, a, b, c⟩)
      · exact .inl (.inl rfl)
      · by_cases hj : j = i
        · subst hj; exact .inr c
        · exact .inl (.inr ⟨j, a, by omega, c⟩)
  · rcases mem_ins.1 hf with rfl | hf
    · rfl
    · exact h.empty f hf hn
theorem rm_last {K : St} (h : Rm 64 K) : append K [122] [] = (K, 8) := by
  have hno : Dk.has K.L [122] = false := by
    rw [← Bool.not_eq_true, h.has]
    rintro (e | ⟨j, _, _, e⟩)
    · cases e
    · simp [nmR] at e
  rw [append_none (by decide) h.dead (look_none.2 hno), if_pos (.inl (by rw [h.len]; omega))]
theorem rm_end {K : St} (h : Rm 64 K) : ∃ K2 K3 K4, append K (nmR 1) [120] = (K2, 0) ∧ K2.L.length = 64 ∧ remove K2 (nmR 2) = (K3, 0) ∧ append K3 [122] [] = (K4, 0) := by
  obtain ⟨f, hl⟩ := look_has ((h.has (nmR 1)).2 (.inr ⟨1, by omega, by omega, rfl⟩))
  obtain ⟨hm, hn⟩ := look_some hl
  have hf : f.all = [] := h.empty f hm (by rw [hn]; exact nmR_f 1)
  have hd := h.dead
  have hr := h.room
  have hlen := h.len
  have hs := h.sorted
  have hh := h.has
  obtain ⟨L, r, dd⟩ := K
  simp only at hd hr hlen hs hh hl
  subst hd hr
  have e : append ⟨L, none, false⟩ (nmR 1) [120] = (⟨upd L (nmR 1) fun f => { f with loose := f.loose ++ [120] }, none, false⟩, 0) := by
    rw [append_some (nmR_bad 1) rfl hl, if_neg (by rw [hf]; simp)]
    simp [pay, fits]
  have hU : ∀ t, Dk.has (upd L (nmR 1) fun f => { f with loose := f.loose ++ [120] }) t = Dk.has L t := fun t => upd_has (g := fun f => { f with loose := f.loose ++ [120] }) (fun _ hx => hx) t
  have hS : Sorted (upd L (nmR 1) fun f => { f with loose := f.loose ++ [120] }) := upd_sorted hs (fun _ hx => hx)
  have hN : (upd L (nmR 1) fun f => { f with loose := f.loose ++ [120] }).length = 64 := by rw [upd_len]; exact hlen
  generalize (upd L (nmR 1) fun f => { f with loose := f.loose ++ [120] }) = M at *
  have h2 : Dk.has M (nmR 2) = true := by rw [hU, hh]; exact .inr ⟨2, by omega, by omega, rfl⟩
  have he : err ⟨M, none, false⟩ (nmR 2) = 0 := by
    unfold err
    rw [h2, nmR_bad]
    rfl
  have e2 : remove ⟨M, none, false⟩ (nmR 2) = (⟨del M (nmR 2), none, false⟩, 0) := by
    unfold remove
    rw [he, if_pos rfl]
  have hz : Dk.has (del M (nmR 2)) [122] = false := by
    rw [del_has, hU]
    have : Dk.has L [122] = false := by
      rw [← Bool.not_eq_true, hh]
      rintro (e | ⟨j, _, _, e⟩)
      · cases e
      · simp [nmR] at e
    rw [this]
    rfl
  have hdl := del_len hS h2
  refine ⟨_, _, ⟨ins (del M (nmR 2)) ⟨[122], [], []⟩, none, false⟩, e, hN, e2, ?_⟩
  rw [append_none (by decide) rfl (look_none.2 hz), if_neg (by simp; omega)]
  simp [pay, fits]
end Dk
end Go.Proofs.Ytklgiocihknebaa
