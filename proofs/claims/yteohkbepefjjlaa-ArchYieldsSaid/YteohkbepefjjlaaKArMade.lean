/- A store behind deeds. -/
import Derived.Test.YteohkbepefjjlaaKArFew
import Derived.Test.YteohkbepefjjlaaKTwo
namespace Go.Proofs.Yteohkbepefjjlaa
open Go.RowKit Pz Ar
set_option linter.unusedVariables false
set_option linter.unusedSimpArgs false

namespace Ar
def deeds (l : List Dd) : Tb := l.foldl deedT (fun _ => [])
theorem deeds_take (l : List Dd) {j : Nat} (hj : j < l.length) : deeds (l.take (j + 1)) = deedT (deeds (l.take j)) l[j] := by
  unfold deeds
  rw [List.take_add_one, List.getElem?_eq_getElem hj, List.foldl_append]
  rfl
theorem deeds_le : ∀ l : List Dd, Le (deeds l) l.length := fun l => by
  have : ∀ (l : List Dd) (t : Tb) (n : Nat), Le t n → Le (l.foldl deedT t) (n + l.length) := fun l => by
    induction l with
    | nil => intro t n h; exact h
    | cons x l ih => intro t n h; rw [List.foldl_cons, List.length_cons]; exact (ih _ _ (le_step h x)).mono (by omega)
  have := this l _ 0 le_none
  rwa [Nat.zero_add] at this
theorem deeds_few {l : List Dd} (h : l.length ≤ 60) : total (deeds l) ≤ 1920 := by
  have := le_total (deeds_le l)
  omega
end Ar
set_option maxHeartbeats 16000000 in
set_option maxRecDepth 100000 in
theorem made_any {w : World} {A : Option Addr} {c : Nat} {l0 : List Dd} (R : RdD w w.heap.size A l0) (hc : l0.length ≤ c) (hcap : c ≤ 140737488351232) (hF : ∀ x ∈ l0, Fit x.b.m) :
    Calls Try.prog 18 #[.slice A l0.length c] w fun e w' => e = .returned (.pointer (some ⟨w.heap.size, 0, none⟩)) ∧ P1 w w.heap.size (deeds (l0.take 60)) [] w' := by
  have N := Lib.hid (p1_new w)
  obtain ⟨s, hs⟩ : ∃ s, s = w.heap.size := ⟨_, rfl⟩
  have FW := Lib.hid fun W (hW : Below w.heap.size w W) => few_any ((R.below hW).more hW.size) hc hcap
  obtain ⟨l, hl⟩ : ∃ l, l = l0.take 60 := ⟨_, rfl⟩
  have hl6 : l.length ≤ 60 := by rw [hl, List.length_take]; omega
  have RX := Lib.hid fun W (hW : Below w.heap.size w W) => (R.take 60).below hW
  have FX : Hid (∀ x ∈ l, Fit x.b.m) := Lib.hid fun x hx => hF x (List.mem_of_mem_take (hl ▸ hx))
  rw [← hl] at RX FW ⊢
  rw [← hs] at N ⊢
  clear hl hs R hF hc hcap
  have hn : (l.length : Int) ≤ 60 := by omega
  have E0 : deeds (l.take 0) = fun _ => [] := rfl
  rw [← E0] at N
  clear E0
  generalize l0.length = n0 at *
  go_enter Try.func18, Try.ntmps18
  go_wp2_with (first
    | (go_at_call 11; refine N.out.mono ?_; rintro e w1 ⟨rfl, h1⟩; clear N)
    | (go_at_call 12; refine (FW.out _ h1.bel).mono ?_; rintro e w2 ⟨⟨c', rfl⟩, rfl⟩; have h2 := Lib.hid h1; clear FW h1))
  go_loopw [4] (fun i wr => ∃ j : Nat, j ≤ l.length ∧ i = .int .i64 j ∧ Hid (P1 w s (deeds (l.take j)) [] wr)) (fun i _ => l.length - (intOf i).toNat)
  case atStart => exact ⟨0, Nat.zero_le _, rfl, h2⟩
  case round =>
    obtain ⟨j, hj, rfl, HP⟩ := hrel
    clear h2
    by_cases hjn : j < l.length
    · have t1 : (j : Int) < (l.length : Int) := by omega
      have hT := deeds_take l hjn
      obtain ⟨g, o, rfl, _⟩ := RX.out wr HP.out.bel j _ (List.getElem?_eq_getElem hjn)
      have h3 := HP.out.two
      have hb3 := bel1 wr (.cells (Array.replicate 32 (.slice none 0 0)) ST)
      obtain ⟨g', o', e, _, k0, k1, k2, k3, k4, k5, k6, k7, k8, k9, k10, k11⟩ := RX.out _ (HP.out.bel.trans (hb3.mono HP.out.bel.size)) j _ (List.getElem?_eq_getElem hjn)
      cases e
      have eA : (Array.replicate 32 (.slice none 0 0) : Array Value) = #[.slice none 0 0, .slice none 0 0, .slice none 0 0, .slice none 0 0, .slice none 0 0, .slice none 0 0, .slice none 0 0, .slice none 0 0, .slice none 0 0, .slice none 0 0, .slice none 0 0, .slice none 0 0, .slice none 0 0, .slice none 0 0, .slice none 0 0, .slice none 0 0, .slice none 0 0, .slice none 0 0, .slice none 0 0, .slice none 0 0, .slice none 0 0, .slice none 0 0, .slice none 0 0, .slice none 0 0, .slice none 0 0, .slice none 0 0, .slice none 0 0, .slice none 0 0, .slice none 0 0, .slice none 0 0, .slice none 0 0, .slice none 0 0] := rfl
      rw [eA] at h3 k0 k1 k2 k3 k4 k5 k6 k7 k8 k9 k10 k11
      have SX := step_any h3 l[j] (FX.out _ (List.getElem_mem hjn)) (n := 60) (n' := 0) ((deeds_le _).mono (by rw [List.length_take]; omega)) le_none (by decide) (by decide)
      rw [← hT] at SX
      generalize deedB (deeds (l.take j)) (fun _ => []) l[j] = bb at SX
      replace SX := Lib.hid SX
      clear h3 hb3 HP hT RX FX eA
      simp only [Dd.val] at SX
      generalize l[j].k = y at *
      generalize l[j].b.s = y0 at *
      generalize l[j].b.i = y1 at *
      generalize l[j].b.g = y2 at *
      generalize l[j].b.m = y3 at *
      generalize l[j].b.x = y4 at *
      generalize l[j].b.y = y5 at *
      generalize l[j].b.vx = y6 at *
      generalize l[j].b.vy = y7 at *
      generalize l[j].b.h = y8 at *
      generalize l[j].b.p = y9 at *
      generalize l[j].b.l = y10 at *
      go_wp2_with (go_at_call 13; refine SX.out.mono ?_; rintro e w5 ⟨rfl, h5'⟩; have h5 := Lib.hid h5'.one; clear SX h5')
      go_roundw
      case rel => exact ⟨j + 1, by omega, by go_num, h5⟩
      case measure => simp [intOf]; omega
    · obtain rfl : j = l.length := by omega
      have t1 : ¬ (l.length : Int) < (l.length : Int) := by omega
      rw [List.take_length] at HP
      clear RX FX
      generalize l.length = n at *
      go_wp2
      go_ret
      exact ⟨rfl, HP.out⟩
end Go.Proofs.Yteohkbepefjjlaa
