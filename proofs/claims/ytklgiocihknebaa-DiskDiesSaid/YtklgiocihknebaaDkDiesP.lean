/- A disk that is to die: what one Append does to its bytes and its room. Over lists. -/
import Derived.Test.YtklgiocihknebaaDkPure
namespace Go.Proofs.Ytklgiocihknebaa
open Dk
set_option linter.unusedVariables false

theorem dead_all {K : St} (hd : K.dead = true) (s t : Str) : ∃ e, Dk.append K s t = (K, e) ∧ Dk.sync K s = (K, e) ∧ Dk.remove K s = (K, e) ∧ (e = 1 ∨ e = 12) := by
  cases hb : bad s
  · exact ⟨12, by simp [Dk.append, hb, hd], by simp [Dk.sync, err, hb, hd], by simp [Dk.remove, err, hb, hd], .inr rfl⟩
  · exact ⟨1, by simp [Dk.append, hb], by simp [Dk.sync, err, hb], by simp [Dk.remove, err, hb], .inl rfl⟩
/-- files of which there are at most n, none with more than m bytes -/
def Slim (n m : Nat) (K : St) : Prop := K.L.length ≤ n ∧ ∀ f ∈ K.L, f.all.length ≤ m
theorem slim_mono {n m n' m' : Nat} {K : St} (h : Slim n m K) (hn : n ≤ n') (hm : m ≤ m') : Slim n' m' K :=
  ⟨Nat.le_trans h.1 hn, fun f hf => Nat.le_trans (h.2 f hf) hm⟩
theorem fits_some (m : Nat) (t : Str) : (fits (some m) t).length = min m t.length := List.length_take
theorem look_upd {L : List Fl} {s : Str} {f : Fl} (hl : look L s = some f) {g : Fl → Fl} (hg : ∀ a, a.name = s → (g a).name = s) : look (upd L s g) s = some (g f) := by
  induction L with
  | nil => cases hl
  | cons a L ih =>
    unfold look upd at *
    rw [List.map_cons, List.find?_cons]
    rw [List.find?_cons] at hl
    by_cases ha : a.name = s
    · have h1 : (a.name == s) = true := beq_iff_eq.2 ha
      rw [h1] at hl
      simp only [Option.some.injEq] at hl
      subst hl
      rw [if_pos ha, beq_iff_eq.2 (hg a ha)]
    · have h1 : (a.name == s) = false := beq_eq_false_iff_ne.2 ha
      rw [h1] at hl
      rw [if_neg ha, h1]
      exact ih hl

theorem dies_step {K : St} (ho : Ok K) (hd : K.dead = false) {m : Nat} (hr : K.room = some m) (s t : Str) {n M : Nat} (hs : Slim n M K) (ht : t.length ≤ 5000) :
    ∃ K' e a a1 a2 b b1 b2, Dk.append K s t = (K', e) ∧ Dk.size K s = (a, a1, a2) ∧ Dk.size K' s = (b, b1, b2) ∧ a ≤ b ∧ b - a ≤ m ∧ K'.room = some (m - (b - a)) ∧
      ((e = 12 ∧ K'.dead = true ∧ b - a = m) ∨ (e = 0 ∧ K'.dead = false ∧ b - a = t.length) ∨ ((e = 1 ∨ e = 8) ∧ K'.dead = false)) ∧ Slim (n + 1) (M + 5000) K' := by
  have hs' := slim_mono hs (Nat.le_succ n) (Nat.le_add_right M 5000)
  obtain ⟨a, a1, a2, hz⟩ : ∃ a a1 a2, Dk.size K s = (a, a1, a2) := ⟨_, _, _, rfl⟩
  cases hb : bad s
  · have hpd : ∀ (c : Nat), (pay K t).dead = decide (min m t.length < t.length) := fun _ => by simp only [pay, hr, fits_some]
    have hpr : (pay K t).room = some (m - min m t.length) := by simp only [pay, hr, Option.map_some, fits_some]
    have tail : ∀ (L' : List Fl) (a b b1 b2 : Nat), b = a + min m t.length → Dk.size { pay K t with L := L' } s = (b, b1, b2) → Slim (n + 1) (M + 5000) { pay K t with L := L' } →
        ∃ K' e b b1 b2, (({ pay K t with L := L' } : St), (if (pay K t).dead then 12 else 0)) = (K', e) ∧ Dk.size K' s = (b, b1, b2) ∧ a ≤ b ∧ b - a ≤ m ∧ K'.room = some (m - (b - a)) ∧
          ((e = 12 ∧ K'.dead = true ∧ b - a = m) ∨ (e = 0 ∧ K'.dead = false ∧ b - a = t.length) ∨ ((e = 1 ∨ e = 8) ∧ K'.dead = false)) ∧ Slim (n + 1) (M + 5000) K' := fun L' a b b1 b2 hbe hz' hsl => by
      refine ⟨_, _, b, b1, b2, rfl, hz', by omega, by omega, ?_, ?_, hsl⟩
      · show (pay K t).room = _
        rw [hpr]
        congr 1
        omega
      · by_cases hc : min m t.length < t.length
        · have : (pay K t).dead = true := by rw [hpd 0]; exact decide_eq_true hc
          exact .inl ⟨by rw [this]; rfl, this, by omega⟩
        · have : (pay K t).dead = false := by rw [hpd 0]; exact decide_eq_false hc
          exact .inr (.inl ⟨by rw [this]; rfl, this, by omega⟩)
    have stay : ∀ c, (c = 1 ∨ c = 8) → ∃ K' e b b1 b2, (K, c) = (K', e) ∧ Dk.size K' s = (b, b1, b2) ∧ a ≤ b ∧ b - a ≤ m ∧ K'.room = some (m - (b - a)) ∧
          ((e = 12 ∧ K'.dead = true ∧ b - a = m) ∨ (e = 0 ∧ K'.dead = false ∧ b - a = t.length) ∨ ((e = 1 ∨ e = 8) ∧ K'.dead = false)) ∧ Slim (n + 1) (M + 5000) K' := fun c hc =>
      ⟨K, c, a, a1, a2, rfl, hz, Nat.le_refl _, by omega, by rw [hr]; congr 1; omega, .inr (.inr ⟨hc, hd⟩), hs'⟩
    have goal : ∃ K' e b b1 b2, Dk.append K s t = (K', e) ∧ Dk.size K' s = (b, b1, b2) ∧ a ≤ b ∧ b - a ≤ m ∧ K'.room = some (m - (b - a)) ∧
          ((e = 12 ∧ K'.dead = true ∧ b - a = m) ∨ (e = 0 ∧ K'.dead = false ∧ b - a = t.length) ∨ ((e = 1 ∨ e = 8) ∧ K'.dead = false)) ∧ Slim (n + 1) (M + 5000) K' := by
      cases hl : look K.L s with
      | none =>
        rw [append_none hb hd hl]
        split
        · exact stay 8 (.inr rfl)
        · have hh := look_none.1 hl
          have ha0 : a = 0 := by
            have : err0 K s = 6 := by simp [err0, hb, hh]
            unfold Dk.size at hz
            rw [this] at hz
            simp only [Nat.reduceEqDiff, if_false, Prod.mk.injEq] at hz
            exact hz.1.symm
          have hh' : has (ins K.L ⟨s, [], fits K.room t⟩) s = true := by rw [ins_has]; simp
          have hl' : look (ins K.L ⟨s, [], fits K.room t⟩) s = some ⟨s, [], fits K.room t⟩ := by
            have := look_mem (ins_sorted ho.sorted (x := ⟨s, [], fits K.room t⟩) hh) (mem_ins.2 (.inl rfl))
            exact this
          have he : err0 { pay K t with L := ins K.L ⟨s, [], fits K.room t⟩ } s = 0 := by simp [err0, hb, hh']
          refine tail _ a (min m t.length) 0 0 (by omega) ?_ ⟨?_, fun f hf => ?_⟩
          · unfold Dk.size
            rw [if_pos he]
            simp only [hl', Option.map_some, Option.getD_some]
            simp only [Fl.all, List.nil_append, List.length_nil, hr, fits_some]
          · show (ins K.L _).length ≤ _
            rw [ins_len]; have := hs.1; omega
          · rcases mem_ins.1 hf with rfl | hf
            · simp only [Fl.all, List.nil_append]; have := fits_len K.room t; omega
            · exact hs'.2 f hf
      | some f =>
        rw [append_some hb hd hl]
        split
        · exact stay 8 (.inr rfl)
        · obtain ⟨hf, hn⟩ := look_some hl
          have hh : has K.L s = true := has_iff.2 ⟨f, hf, hn⟩
          have hg : ∀ a : Fl, a.name = s → ({ a with loose := a.loose ++ fits K.room t } : Fl).name = s := fun a h => h
          have ha : a = f.all.length := by
            have : err0 K s = 0 := by simp [err0, hb, hh]
            unfold Dk.size at hz
            rw [if_pos this, hl] at hz
            simp only [Option.map_some, Option.getD_some, Prod.mk.injEq] at hz
            exact hz.1.symm
          have hl' := look_upd hl hg
          have he : err0 { pay K t with L := upd K.L s fun f => { f with loose := f.loose ++ fits K.room t } } s = 0 := by simp [err0, hb, upd_has hg, hh]
          refine tail _ a (a + min m t.length) f.sure.length 0 rfl ?_ ⟨?_, fun x hx => ?_⟩
          · unfold Dk.size
            rw [if_pos he]
            simp only [hl', Option.map_some, Option.getD_some]
            simp only [Fl.all, List.length_append, hr, fits_some, ha, Nat.add_assoc]
          · show (upd K.L s _).length ≤ _
            rw [upd_len]; exact hs'.1
          · rcases mem_upd.1 hx with ⟨h, _⟩ | ⟨y, hy, _, rfl⟩
            · exact hs'.2 x h
            · have h1 := hs.2 y hy
              have h2 := fits_len K.room t
              simp only [Fl.all, List.length_append] at *
              omega
    obtain ⟨K', e, b, b1, b2, g⟩ := goal
    exact ⟨K', e, a, a1, a2, b, b1, b2, g.1, hz, g.2⟩
  · exact ⟨K, 1, a, a1, a2, a, a1, a2, by simp [Dk.append, hb], hz, hz, Nat.le_refl _, by omega, by rw [hr]; congr 1; omega, .inr (.inr ⟨.inl rfl, hd⟩), hs'⟩

/-- behind the crash a little more is taken -/
theorem more_fits {K : St} {n M : Nat} (hs : Slim n M K) (hn : n ≤ 63) (hM : M ≤ 1000000) (k : Int) : ∃ K', Dk.append (crash K k) [102] [109, 111, 114, 101] = (K', 0) := by
  have hb : bad [102] = false := rfl
  cases hl : look (crash K k).L [102] with
  | none =>
    rw [append_none hb rfl hl, if_neg]
    · exact ⟨_, rfl⟩
    · show ¬ (64 ≤ (K.L.map _).length ∨ _)
      rw [List.length_map]
      have := hs.1
      simp
      omega
  | some f =>
    rw [append_some hb rfl hl, if_neg]
    · exact ⟨_, rfl⟩
    · obtain ⟨a, ha, rfl⟩ := List.mem_map.1 (look_some hl).1
      have := hs.2 a ha
      simp only [kept, Fl.all, List.append_nil, List.length_append, List.length_take, List.length_cons, List.length_nil] at *
      omega
end Go.Proofs.Ytklgiocihknebaa
