/- The law ArchPlays, walked. Written by wip/tools/genplays.py. -/
import Derived.Test.YteohkbepefjjlaaKArMade
import Derived.Test.YteohkbepefjjlaaKArAlike
import Derived.Test.YteohkbepefjjlaaKArAwake
namespace Go.Proofs.Yteohkbepefjjlaa
open Go.RowKit Pz Ar
set_option linter.unusedVariables false
set_option linter.unusedSimpArgs false

section
variable {w W V : World} {s r : Nat} {t u : Tb} {K : List (Nat × Obj)}
theorem P2.alike (h : P2 w s r t t K W) (hl : total t ≤ 10000) : Calls Try.prog 14 #[.pointer (some ⟨s, 0, none⟩), .pointer (some ⟨r, 0, none⟩)] W fun e V => e = .returned (.bool true) ∧ P2 w s r t t K V := by
  obtain ⟨F, hC⟩ := h.cs
  obtain ⟨G, hR⟩ := h.rs
  exact (alike_any hC hR hl).mono fun e V ⟨e1, e2⟩ => ⟨e1, h.below e2⟩
theorem Ar.gets {t : Tb} (k : NK) : ∃ (x : Bn) (i : Int), cgetV t k = .tuple #[x.val, .bool (Ar.find t k).isSome] ∧ getV t k = .tuple #[x.val, .int .i64 i, .bool (Ar.find t k).isSome] ∧ ∀ m j, Ar.find t k = some (m, j) → (t m)[j]? = some x := by
  cases hf : Ar.find t k with
  | none => exact ⟨⟨0, 0, 0, 0, 0, 0, 0, 0, 0, 0, 0⟩, 0, by unfold cgetV; rw [hf]; rfl, by unfold getV; rw [hf]; rfl, fun m j e => by cases e⟩
  | some y =>
    obtain ⟨m, i⟩ := y
    obtain ⟨_, x, hx, _⟩ := find_at hf
    exact ⟨x, i, by unfold cgetV; rw [hf]; simp only [hx]; rfl, by unfold getV; rw [hf]; simp only [hx]; rfl, fun m' j e => by cases e; exact hx⟩
theorem P2.get (h : P2 w s r t u K W) (k1 k2 k3 : Int) : Calls Try.prog 15 #[.pointer (some ⟨s, 0, none⟩), .agg #[.int .i64 k1, .int .i64 k2, .int .i64 k3]] W fun e V => e = .returned (cgetV t (k1, k2, k3)) ∧ P2 w s r t u K V := by
  obtain ⟨F, hC⟩ := h.cs
  exact (get_any hC k1 k2 k3).mono fun e V ⟨e1, e2⟩ => ⟨e1, h.below e2⟩
theorem P2.rget (h : P2 w s r t u K W) (k1 k2 k3 : Int) : Calls Try.prog 16 #[.pointer (some ⟨r, 0, none⟩), .agg #[.int .i64 k1, .int .i64 k2, .int .i64 k3]] W fun e V => e = .returned (getV u (k1, k2, k3)) ∧ P2 w s r t u K V := by
  obtain ⟨G, hR⟩ := h.rs
  exact (rGet_any hR k1 k2 k3).mono fun e V ⟨e1, e2⟩ => ⟨e1, h.below e2⟩
end
theorem deeds_total {l : List Dd} (h : l.length ≤ 60) : total (deeds l) ≤ 10000 := by have := deeds_few h; omega
set_option maxHeartbeats 16000000 in
set_option maxRecDepth 100000 in
theorem law_plays (w : World) (A : Option Addr) (c : Nat) (l0 : List Dd) (hc : l0.length ≤ c) (hcap : c ≤ 140737488351232) (hF : ∀ x ∈ l0, Fit x.b.m) (R : RdD w w.heap.size A l0) :
    Calls Try.prog 3 #[.slice A l0.length c] w fun e w' => e = .returned (.bool true) ∧ Below w.heap.size w w' := by
  have N := Lib.hid (p1_new w)
  obtain ⟨s, hs⟩ : ∃ s, s = w.heap.size := ⟨_, rfl⟩
  have FW := Lib.hid fun W (hW : Below w.heap.size w W) => few_any ((R.below hW).more hW.size) hc hcap
  obtain ⟨l, hl⟩ : ∃ l, l = l0.take 60 := ⟨_, rfl⟩
  have hl6 : l.length ≤ 60 := by rw [hl, List.length_take]; omega
  have RX := Lib.hid fun W (hW : Below w.heap.size w W) => (R.take 60).below hW
  have FX : Hid (∀ x ∈ l, Fit x.b.m) := Lib.hid fun x hx => hF x (List.mem_of_mem_take (hl ▸ hx))
  rw [← hl] at RX FW
  rw [← hs] at N
  clear hl hs R hF hc hcap
  have hn : (l.length : Int) ≤ 60 := by omega
  have eA : (Array.replicate 32 (.slice none 0 0) : Array Value) = #[.slice none 0 0, .slice none 0 0, .slice none 0 0, .slice none 0 0, .slice none 0 0, .slice none 0 0, .slice none 0 0, .slice none 0 0, .slice none 0 0, .slice none 0 0, .slice none 0 0, .slice none 0 0, .slice none 0 0, .slice none 0 0, .slice none 0 0, .slice none 0 0, .slice none 0 0, .slice none 0 0, .slice none 0 0, .slice none 0 0, .slice none 0 0, .slice none 0 0, .slice none 0 0, .slice none 0 0, .slice none 0 0, .slice none 0 0, .slice none 0 0, .slice none 0 0, .slice none 0 0, .slice none 0 0, .slice none 0 0, .slice none 0 0] := rfl
  have AW := Lib.hid awake_any
  generalize l0.length = n0 at *
  go_enter Try.func3, Try.ntmps3
  go_wp2_with (first
    | (go_at_call 11; refine N.out.mono ?_; rintro e w1 ⟨rfl, h1'⟩; have h1 := h1'.two; rw [eA] at h1; clear N h1' eA)
    | (go_at_call 12; refine (FW.out _ h1.bel).mono ?_; rintro e w2 ⟨⟨c', rfl⟩, rfl⟩; have h2 := Lib.hid h1; clear FW h1))
  generalize w1.heap.size = r at *
  have h3 : Hid (P2 w s r (deeds (l.take 0)) (deeds (l.take 0)) [] _) := h2
  clear h2
  go_loopw [5] (fun i wr => ∃ j : Nat, j ≤ l.length ∧ i = .int .i64 j ∧ Hid (P2 w s r (deeds (l.take j)) (deeds (l.take j)) [] wr)) (fun i _ => l.length - (intOf i).toNat)
  case atStart => exact ⟨0, Nat.zero_le _, rfl, h3⟩
  case round =>
    obtain ⟨j, hj, rfl, HP⟩ := hrel
    clear h3
    by_cases hjn : j < l.length
    · have t1 : (j : Int) < (l.length : Int) := by omega
      have hT := deeds_take l hjn
      obtain ⟨g, o, rfl, _⟩ := RX.out wr HP.out.bel j _ (List.getElem?_eq_getElem hjn)
      have RC : Hid (∀ W, Below w.heap.size w W → W.cell? ⟨g, o + j * 12, none⟩ = some (.int .i64 l[j].k) ∧ W.cell? ⟨g, o + j * 12 + 1, none⟩ = some (.int .i64 l[j].b.s) ∧ W.cell? ⟨g, o + j * 12 + 2, none⟩ = some (.int .i64 l[j].b.i) ∧ W.cell? ⟨g, o + j * 12 + 3, none⟩ = some (.int .i64 l[j].b.g) ∧ W.cell? ⟨g, o + j * 12 + 4, none⟩ = some (.int .i64 l[j].b.m) ∧ W.cell? ⟨g, o + j * 12 + 5, none⟩ = some (.int .i64 l[j].b.x) ∧ W.cell? ⟨g, o + j * 12 + 6, none⟩ = some (.int .i64 l[j].b.y) ∧ W.cell? ⟨g, o + j * 12 + 7, none⟩ = some (.int .i64 l[j].b.vx) ∧ W.cell? ⟨g, o + j * 12 + 8, none⟩ = some (.int .i64 l[j].b.vy) ∧ W.cell? ⟨g, o + j * 12 + 9, none⟩ = some (.int .i64 l[j].b.h) ∧ W.cell? ⟨g, o + j * 12 + 10, none⟩ = some (.int .i64 l[j].b.p) ∧ W.cell? ⟨g, o + j * 12 + 11, none⟩ = some (.int .i64 l[j].b.l)) := Lib.hid fun W hW => by
        obtain ⟨g', o', e, _, hc⟩ := RX.out W hW j _ (List.getElem?_eq_getElem hjn)
        cases e
        exact hc
      have hLe : Le (deeds (l.take j)) 60 := (deeds_le _).mono (by rw [List.length_take]; omega)
      have SX := step_any HP.out l[j] (FX.out _ (List.getElem_mem hjn)) hLe hLe (by decide) (by decide)
      rw [← hT, deedB_self] at SX
      replace SX := Lib.hid SX
      have AL := Lib.hid fun W (h : P2 w s r (deeds (l.take (j + 1))) (deeds (l.take (j + 1))) [] W) => h.alike (deeds_total (by rw [List.length_take]; omega))
      obtain ⟨x, xi, g1, g2, _⟩ := gets (t := deeds (l.take (j + 1))) l[j].b.id
      have GX : Hid (∀ W, P2 w s r (deeds (l.take (j + 1))) (deeds (l.take (j + 1))) [] W → Calls Try.prog 15 #[.pointer (some ⟨s, 0, none⟩), .agg #[.int .i64 l[j].b.s, .int .i64 l[j].b.i, .int .i64 l[j].b.g]] W fun e V => e = .returned (.tuple #[x.val, .bool (Ar.find (deeds (l.take (j + 1))) l[j].b.id).isSome]) ∧ P2 w s r (deeds (l.take (j + 1))) (deeds (l.take (j + 1))) [] V) := Lib.hid fun W h => by
        have := h.get l[j].b.s l[j].b.i l[j].b.g
        rw [g1] at this
        exact this
      have DX : Hid (∀ W, P2 w s r (deeds (l.take (j + 1))) (deeds (l.take (j + 1))) [] W → Calls Try.prog 16 #[.pointer (some ⟨r, 0, none⟩), .agg #[.int .i64 l[j].b.s, .int .i64 l[j].b.i, .int .i64 l[j].b.g]] W fun e V => e = .returned (.tuple #[x.val, .int .i64 xi, .bool (Ar.find (deeds (l.take (j + 1))) l[j].b.id).isSome]) ∧ P2 w s r (deeds (l.take (j + 1))) (deeds (l.take (j + 1))) [] V) := Lib.hid fun W h => by
        have := h.rget l[j].b.s l[j].b.i l[j].b.g
        rw [g2] at this
        exact this
      have hb0 := HP.out.bel
      clear g1 g2 hT RX FX HP hLe
      generalize (Ar.find (deeds (l.take (j + 1))) l[j].b.id).isSome = bb at *
      have nm : (bb != bb) = false := by simp
      have nm2 : (bb == bb) = true := by simp
      obtain ⟨xs, xi', xg, xm, xx, xY, xvx, xvy, xh, xp, xl⟩ := x
      simp only [Dd.val, Bn.val] at SX GX DX
      generalize l[j].k = y at *
      generalize l[j].b.s = y0 at *
      generalize l[j].b.i = y1 at *
      generalize l[j].b.g = y2 at *
      generalize l[j].b.m = y3 at *
      generalize l[j].b.x = y4 at *
      generalize l[j].b.y = y5 at *
      generalize l[j].b.vx = y6 at *
      generalize l[j].b.vy = y7 at *
      generalize l[j].b.h = y8 at *
      generalize l[j].b.p = y9 at *
      generalize l[j].b.l = y10 at *
      obtain ⟨k0, k1, k2, k3, k4, k5, k6, k7, k8, k9, k10, k11⟩ := RC.out _ hb0
      go_wp2_with (first
        | (go_at_call 13; refine SX.out.mono ?_; rintro e w5 ⟨rfl, h5⟩; clear SX k0 k1 k2 k3 k4 k5 k6 k7 k8 k9 k10 k11)
        | (go_at_call 14; refine (AL.out _ h5).mono ?_; rintro e w6 ⟨rfl, h6⟩; clear AL h5; obtain ⟨k0, k1, k2, k3, k4, k5, k6, k7, k8, k9, k10, k11⟩ := RC.out _ h6.bel)
        | (go_at_call 15; refine (GX.out _ h6).mono ?_; rintro e w7 ⟨rfl, h7'⟩; have h7 := h7'.below (bel1 w7 (.cells #[.int .i64 xs, .int .i64 xi', .int .i64 xg, .int .i64 xm, .int .i64 xx, .int .i64 xY, .int .i64 xvx, .int .i64 xvy, .int .i64 xh, .int .i64 xp, .int .i64 xl] 35)); clear h7' GX h6 k0 k1 k2 k3 k4 k5 k6 k7 k8 k9 k10 k11; obtain ⟨k0, k1, k2, k3, k4, k5, k6, k7, k8, k9, k10, k11⟩ := RC.out _ h7.bel)
        | (go_at_call 16; refine (DX.out _ h7).mono ?_; rintro e w8 ⟨rfl, h8'⟩; have h8 := h8'.below (bel1 w8 (.cells #[.int .i64 xs, .int .i64 xi', .int .i64 xg, .int .i64 xm, .int .i64 xx, .int .i64 xY, .int .i64 xvx, .int .i64 xvy, .int .i64 xh, .int .i64 xp, .int .i64 xl] 35)); clear h8' DX h7 k0 k1 k2 k3 k4 k5 k6 k7 k8 k9 k10 k11))
      go_roundw
      case rel => exact ⟨j + 1, by omega, by go_num, Lib.hid h8⟩
      case measure => simp [intOf]; omega
    · obtain rfl : j = l.length := by omega
      have t1 : ¬ (l.length : Int) < (l.length : Int) := by omega
      have hb0 := Lib.hid HP.out.bel
      clear RX FX HP
      generalize l.length = n at *
      go_wp2_with (go_at_call 17; refine (AW.out _).mono ?_; rintro e w9 ⟨rfl, b9⟩; clear AW)
      go_ret
      exact ⟨rfl, hb0.out.trans (b9.mono hb0.out.size)⟩
end Go.Proofs.Yteohkbepefjjlaa
