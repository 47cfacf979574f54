/- The document's pool: Reserve. -/
import Derived.Test.YtdanpdlbbgcidaaIdRef3
import Derived.StillTailTactics
import Derived.IntWalk
namespace Go.Proofs.Ytdanpdlbbgcidaa
open Go.RowKit Ids
set_option linter.unusedVariables false

section
variable {w W W' : World} {q : RPl} {K : St}
theorem slotV_setBnd {k i v : Nat} {k' i' e : Nat} (hi : e < 6) : up3 (slotV q K) k i 3 (.int .i64 (v : Int)) k' i' e = slotV q (setBnd K k i v) k' i' e := by
  unfold up3
  by_cases h : k' = k ∧ i' = i ∧ e = 3
  · obtain ⟨rfl, rfl, rfl⟩ := h
    rw [if_pos ⟨rfl, rfl, rfl⟩]
    show _ = Value.int .i64 (up2 K.bnd k' i' v k' i' : Nat)
    rw [up2_same]
  · rw [if_neg h]
    match e, hi, h with
    | 0, _, _ => rfl
    | 1, _, _ => rfl
    | 2, _, _ => rfl
    | 3, _, h =>
      show _ = Value.int .i64 (up2 K.bnd k i v k' i' : Nat)
      rw [up2_other (fun ⟨e1, e2⟩ => h ⟨e1, e2, rfl⟩)]
      rfl
    | 4, _, _ => rfl
    | 5, _, _ => rfl
theorem up3_twice (f : Sf) (k i c : Nat) (v u : Value) : up3 (up3 f k i c v) k i c u = up3 f k i c u := by
  funext a b e
  unfold up3
  split <;> rfl
theorem RS.toBnd {W : World} (h : RA w q K) {k i v : Nat} (hv : v ≤ MG) (hs : RS W q.d q.b q.c q.put K.n K.m (up3 (slotV q K) k i 3 (.int .i64 (v : Int)))) : RA W q (setBnd K k i v) :=
  RS.ra (K := setBnd K k i v) (hs.congr fun k' i' e _ _ he => slotV_setBnd he) ⟨h.ok.n1, h.ok.n2, h.ok.m1, h.ok.m2, h.ok.nodup, h.ok.lt, h.ok.gen, fun a b => by
    show up2 K.bnd k i v a b ≤ MG
    unfold up2
    split
    · exact hv
    · exact h.ok.bnd a b⟩ h.cap h.rise h.low h.few
set_option maxHeartbeats 4000000 in
set_option maxRecDepth 100000 in
/-- a block of generations more -/
theorem rreserve_any (h : RA w q K) {lo hi : Nat} (hd : lo ≤ q.d ∧ q.d < hi) (hb : lo ≤ q.b ∧ q.b < hi) (k i : Int) : Calls Try.prog 26 #[.pointer (some ⟨q.d, 0, none⟩), .int .i64 k, .int .i64 i] w fun e w' => e = .returned (.int .i64 ((reserve K k i).2 : Nat)) ∧ RA w' q (reserve K k i).1 ∧ Turn lo hi w w' := by
  have R := Lib.hid (rat_any h k i)
  have c0 := h.box0
  have hs := h.size
  have T0 := Lib.hid (Turn.refl lo hi w)
  unfold Ids.reserve
  by_cases hin : In K k i
  · rw [if_pos hin]
    rw [rat_in hin] at R
    have hk : k.toNat < K.n := by obtain ⟨_, _, _, _⟩ := hin; omega
    have hi' : i.toNat < K.m := by obtain ⟨_, _, _, _⟩ := hin; omega
    have hp := pos_lt hk hi'
    have t1 : ((k.toNat * K.m + i.toNat : Nat) : Int) < ((K.n * K.m : Nat) : Int) := by omega
    have t2 : ¬ ((k.toNat * K.m + i.toNat : Nat) : Int) < 0 := by omega
    have c3 := h.rs.at_ hk hi' (e := 3) (by decide)
    obtain ⟨c3, f3⟩ := c3
    replace c3 : w.cell? ⟨q.b, (k.toNat * K.m + i.toNat) * 6 + 3, none⟩ = some (.int .i64 (K.bnd k.toNat i.toNat : Int)) := c3
    have hb9 := h.ok.bnd k.toNat i.toNat
    by_cases hm : K.bnd k.toNat i.toNat ≥ MG
    · rw [if_pos hm]
      have HP := Lib.hid h
      have t3 : (K.bnd k.toNat i.toNat : Int) ≥ 1048576 := by unfold MG at hm; omega
      clear h hin hk hi' hm hb9 f3 hp
      generalize K.bnd k.toNat i.toNat = n at *
      generalize k.toNat * K.m + i.toNat = p at *
      generalize K.n * K.m = N at *
      go_enter Try.func26, Try.ntmps26
      go_wp2_with (go_at_call 44; refine R.out.mono ?_; rintro e w' ⟨rfl, rfl⟩; clear R)
      go_ret
      exact ⟨rfl, HP.out, T0.out⟩
    · rw [if_neg hm]
      unfold MG at hm
      have t3 : ¬ (K.bnd k.toNat i.toNat : Int) ≥ 1048576 := by omega
      obtain ⟨n8, hn8⟩ : ∃ n8 : Nat, (K.bnd k.toNat i.toNat : Int) + 8 = (n8 : Int) := ⟨K.bnd k.toNat i.toNat + 8, by omega⟩
      have hlt : (n8 : Int) ≤ 1048583 := by omega
      have wz : IntKind.i64.wrap ((K.bnd k.toNat i.toNat : Int) + 8) = (n8 : Int) := by rw [hn8]; exact IntWalk.i64_in _ (by omega)
      have wz := Lib.hid wz
      have hlt := Lib.hid hlt
      have S1 : Hid (∀ W : World, Below w.heap.size w W → W.cell? ⟨q.d, 0, none⟩ = some (Value.slice (some ⟨q.b, 0, none⟩) (K.n * K.m) q.c) ∧ W.cell? ⟨q.b, (k.toNat * K.m + i.toNat) * 6 + 3, none⟩ = some (.int .i64 (K.bnd k.toNat i.toNat : Int)) ∧ W.frozen? ⟨q.b, (k.toNat * K.m + i.toNat) * 6 + 3, none⟩ = false ∧
          ((W.setCell ⟨q.b, (k.toNat * K.m + i.toNat) * 6 + 3, none⟩ (.int .i64 (n8 : Int))).cell? ⟨q.d, 0, none⟩ = some (Value.slice (some ⟨q.b, 0, none⟩) (K.n * K.m) q.c) ∧ (W.setCell ⟨q.b, (k.toNat * K.m + i.toNat) * 6 + 3, none⟩ (.int .i64 (n8 : Int))).cell? ⟨q.b, (k.toNat * K.m + i.toNat) * 6 + 3, none⟩ = some (.int .i64 (n8 : Int)) ∧ (W.setCell ⟨q.b, (k.toNat * K.m + i.toNat) * 6 + 3, none⟩ (.int .i64 (n8 : Int))).frozen? ⟨q.b, (k.toNat * K.m + i.toNat) * 6 + 3, none⟩ = false)) := Lib.hid fun W hW => by
        have h1 := (h.below hW).rs
        have h2 := h1.set hk hi' (e := 3) (by decide) (.int .i64 (n8 : Int))
        have h3 := h2.at_ hk hi' (e := 3) (by decide)
        rw [up3_same] at h3
        exact ⟨h1.box0, (h1.at_ hk hi' (e := 3) (by decide)).1, (h1.at_ hk hi' (e := 3) (by decide)).2, h2.box0, h3.1, h3.2⟩
      have F1 : Hid (∀ W : World, Below w.heap.size w W → (n8 : Int) ≤ 1048576 → RA (W.setCell ⟨q.b, (k.toNat * K.m + i.toNat) * 6 + 3, none⟩ (.int .i64 (n8 : Int))) q (setBnd K k.toNat i.toNat (min (K.bnd k.toNat i.toNat + 8) MG)) ∧ Turn lo hi w (W.setCell ⟨q.b, (k.toNat * K.m + i.toNat) * 6 + 3, none⟩ (.int .i64 (n8 : Int)))) := Lib.hid fun W hW hn => by
        have e0 : K.bnd k.toNat i.toNat + 8 = n8 := by omega
        have e2 : n8 ≤ MG := by unfold MG; omega
        rw [e0, Nat.min_eq_left e2]
        have h9 := h.below hW
        exact ⟨RS.toBnd h9 e2 (h9.rs.set hk hi' (e := 3) (by decide) (.int .i64 (n8 : Int))), (Turn.of hW (by have := heap_lt h.box; omega)).set hb.1 hb.2 _⟩
      have F2 : Hid (∀ W : World, Below w.heap.size w W → (n8 : Int) > 1048576 → RA ((W.setCell ⟨q.b, (k.toNat * K.m + i.toNat) * 6 + 3, none⟩ (.int .i64 (n8 : Int))).setCell ⟨q.b, (k.toNat * K.m + i.toNat) * 6 + 3, none⟩ (.int .i64 1048576)) q (setBnd K k.toNat i.toNat (min (K.bnd k.toNat i.toNat + 8) MG)) ∧ Turn lo hi w ((W.setCell ⟨q.b, (k.toNat * K.m + i.toNat) * 6 + 3, none⟩ (.int .i64 (n8 : Int))).setCell ⟨q.b, (k.toNat * K.m + i.toNat) * 6 + 3, none⟩ (.int .i64 1048576))) := Lib.hid fun W hW hn => by
        have e0 : K.bnd k.toNat i.toNat + 8 = n8 := by omega
        have e2 : MG ≤ n8 := by unfold MG; omega
        have e3 : (1048576 : Int) = ((MG : Nat) : Int) := rfl
        rw [e0, Nat.min_eq_right e2, e3]
        have h9 := h.below hW
        have h10 := (h9.rs.set hk hi' (e := 3) (by decide) (.int .i64 (n8 : Int))).set hk hi' (e := 3) (by decide) (.int .i64 ((MG : Nat) : Int))
        rw [up3_twice] at h10
        exact ⟨RS.toBnd h9 (Nat.le_refl _) h10, ((Turn.of hW (by have := heap_lt h.box; omega)).set hb.1 hb.2 _).set hb.1 hb.2 _⟩
      clear h hin hk hi' hm hb9 f3 hp hn8 T0
      generalize setBnd K k.toNat i.toNat (min (K.bnd k.toNat i.toNat + 8) MG) = K9 at *
      generalize (K.bnd k.toNat i.toNat : Int) = y at *
      generalize (n8 : Int) = z8 at *
      generalize k.toNat * K.m + i.toNat = p at *
      generalize K.n * K.m = N at *
      go_enter Try.func26, Try.ntmps26
      go_wp2_with (go_at_call 44; refine R.out.mono ?_; rintro e w' ⟨rfl, rfl⟩; clear R)
      have wz := wz.out
      have hlt := hlt.out
      go_still_tail 16, (by kernel_rfl)
      change wpList _ _ _ _ _ w.drew
      obtain ⟨s1, s2, s3, s4, s5, s6⟩ := S1.out w.drew ((Below.refl _ _).drew)
      have F1 := Lib.hid (F1.out w.drew ((Below.refl _ _).drew))
      have F2 := Lib.hid (F2.out w.drew ((Below.refl _ _).drew))
      clear S1 c0 c3
      generalize w.drew = w2 at *
      by_cases hg : z8 > 1048576
      · have F2 := Lib.hid (F2.out hg)
        clear F1
        go_wp2
        go_ret
        exact ⟨rfl, F2.out⟩
      · have F1 := Lib.hid (F1.out (by omega))
        clear F2
        go_wp2
        go_ret
        exact ⟨rfl, F1.out⟩
  · rw [if_neg hin]
    rw [rat_out hin] at R
    have HP := Lib.hid h
    clear h hin
    go_enter Try.func26, Try.ntmps26
    go_wp2_with (go_at_call 44; refine R.out.mono ?_; rintro e w' ⟨rfl, rfl⟩; clear R)
    go_ret
    exact ⟨rfl, HP.out, T0.out⟩
end
end Go.Proofs.Ytdanpdlbbgcidaa
