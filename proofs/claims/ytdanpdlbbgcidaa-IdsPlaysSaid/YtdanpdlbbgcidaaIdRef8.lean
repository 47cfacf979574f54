/- The document's pool: Free. -/
import Derived.Test.YtdanpdlbbgcidaaIdRef7
namespace Go.Proofs.Ytdanpdlbbgcidaa
open Go.RowKit Ids
set_option linter.unusedVariables false

section
variable {w W W' : World} {lo hi : Nat} {q : RPl} {K : St} {s put : Nat} {x : I3} {f : Sf}
theorem Pt.setPut (h : Pt w lo hi q K s x put f W) (v : Nat) : Pt w lo hi q K s x v f (W.setCell ⟨q.d, 1, none⟩ (.int .i64 (v : Int))) :=
  ⟨h.rs.setPut v, (heap_ne (ne_type h.bx h.rs.box (by decide)) _).trans h.bx, h.tu.set (p := ⟨q.d, 1, none⟩) h.ind.1 h.ind.2 _, h.inb, h.ind⟩
set_option maxHeartbeats 8000000 in
set_option maxRecDepth 100000 in
/-- a name is nobody's any more -/
theorem rfree_any (h : RA w q K) (hd : lo ≤ q.d ∧ q.d < hi) (hb : lo ≤ q.b ∧ q.b < hi) (hp1 : q.put + 1 ≤ 1000000) (k i g : Int) : Calls Try.prog 29 #[.pointer (some ⟨q.d, 0, none⟩), .agg #[.int .i64 k, .int .i64 i, .int .i64 g]] w fun e w' => e = .returned (.int .i64 ((free K k i g).2 : Nat)) ∧ (∃ q' : RPl, RA w' q' (free K k i g).1 ∧ q'.d = q.d ∧ q'.b = q.b ∧ q'.put ≤ q.put + 1) ∧ Turn lo hi w w' := by
  have P0 := h.pt hd hb (k, i, g)
  have h' := h.below (bel1 w (ido (k, i, g)))
  have R := Lib.hid (rat_any h' k i)
  have AL := Lib.hid (ralive_any h' k i g)
  obtain ⟨c0, a0, a1, a2⟩ := P0.view
  simp only at a0 a1 a2
  have hs := h.size
  have FIN : Hid (∀ W, Below (w.alloc (ido (k, i, g))).heap.size (w.alloc (ido (k, i, g))) W → (∃ q' : RPl, RA W q' K ∧ q'.d = q.d ∧ q'.b = q.b ∧ q'.put ≤ q.put + 1) ∧ Turn lo hi w W) := Lib.hid fun W hW => ⟨⟨q, h'.below hW, rfl, rfl, by omega⟩, (P0.below hW).tu⟩
  unfold Ids.free
  by_cases hin : In K k i
  · rw [rat_in hin] at R
    have hk : k.toNat < K.n := by obtain ⟨_, _, _, _⟩ := hin; omega
    have hi' : i.toNat < K.m := by obtain ⟨_, _, _, _⟩ := hin; omega
    have hp := pos_lt hk hi'
    have t1 : ((k.toNat * K.m + i.toNat : Nat) : Int) < ((K.n * K.m : Nat) : Int) := by omega
    have t2 : ¬ ((k.toNat * K.m + i.toNat : Nat) : Int) < 0 := by omega
    by_cases hg : g < 0
    · rw [if_pos (.inr hg)]
      clear h h' hin hk hi' hp P0 AL
      generalize k.toNat * K.m + i.toNat = p at *
      generalize K.n * K.m = N at *
      go_enter Try.func29, Try.ntmps29
      go_wp2_with (go_at_call 44; refine R.out.mono ?_; rintro e w' ⟨rfl, rfl⟩; clear R)
      go_ret
      exact ⟨rfl, FIN.out _ (Below.refl _ _)⟩
    · rw [if_neg (by rintro (e | e); exact e hin; exact hg e)]
      cases hal : alive K k i g with
      | false =>
        rw [if_pos rfl]
        rw [hal] at AL
        clear h h' hin hk hi' hp P0 hal
        generalize k.toNat * K.m + i.toNat = p at *
        generalize K.n * K.m = N at *
        go_enter Try.func29, Try.ntmps29
        go_wp2_with (first
          | (go_at_call 44; refine R.out.mono ?_; rintro e w' ⟨rfl, rfl⟩; clear R)
          | (go_at_call 34; refine AL.out.mono ?_; rintro e w5 ⟨rfl, hb5⟩; have F5 := Lib.hid (FIN.out _ hb5); clear AL))
        go_ret
        exact ⟨rfl, F5.out⟩
      | true =>
        rw [if_neg (by decide)]
        rw [hal] at AL
        obtain ⟨_, hge, htk⟩ := alive_in hal
        obtain ⟨hni, hgM⟩ := (taken_iff _ _ _).1 htk
        have ok := h.ok.freed hk hi' htk
        have PB : Hid (∀ W, Below (w.alloc (ido (k, i, g))).heap.size (w.alloc (ido (k, i, g))) W → Pt w lo hi q K w.heap.size (k, i, g) q.put (slotV q K) W) := Lib.hid fun W hW => P0.below hW
        have VW : Hid (∀ f W pu, Pt w lo hi q K w.heap.size (k, i, g) pu f W → W.cell? ⟨q.d, 0, none⟩ = some (Value.slice (some ⟨q.b, 0, none⟩) (K.n * K.m) q.c) ∧ W.cell? ⟨q.d, 1, none⟩ = some (.int .i64 (pu : Int)) ∧ W.frozen? ⟨q.d, 1, none⟩ = false) := Lib.hid fun f W pu hP => ⟨hP.view.1, hP.rs.box1⟩
        have CE : Hid (∀ f W pu e, e < 6 → Pt w lo hi q K w.heap.size (k, i, g) pu f W → W.cell? ⟨q.b, (k.toNat * K.m + i.toNat) * 6 + e, none⟩ = some (f k.toNat i.toNat e) ∧ W.frozen? ⟨q.b, (k.toNat * K.m + i.toNat) * 6 + e, none⟩ = false) := Lib.hid fun f W pu e he hP => hP.cell hk hi' he
        have ST : Hid (∀ f W pu e v, e < 6 → Pt w lo hi q K w.heap.size (k, i, g) pu f W → Pt w lo hi q K w.heap.size (k, i, g) pu (up3 f k.toNat i.toNat e v) (W.setCell ⟨q.b, (k.toNat * K.m + i.toNat) * 6 + e, none⟩ v)) := Lib.hid fun f W pu e v he hP => hP.set hk hi' he v
        have E2 : Hid (up3 (slotV q K) k.toNat i.toNat 5 (.bool false) k.toNat i.toNat 2 = .int .i64 (K.gen k.toNat i.toNat : Int)) := Lib.hid (by simp [up3, slotV])
        have E2' : Hid (∀ v, up3 (up3 (slotV q K) k.toNat i.toNat 5 (.bool false)) k.toNat i.toNat 2 v k.toNat i.toNat 2 = v) := Lib.hid fun v => up3_same _ _ _ _ _
        have wz : IntKind.i64.wrap ((K.gen k.toNat i.toNat : Int) + 1) = ((K.gen k.toNat i.toNat + 1 : Nat) : Int) := by
          unfold MG at hgM
          rw [IntWalk.i64_in _ (by omega)]; omega
        have wp : IntKind.i64.wrap ((q.put : Int) + 1) = ((q.put + 1 : Nat) : Int) := by rw [IntWalk.i64_in _ (by omega)]; omega
        have t4 : decide (((K.gen k.toNat i.toNat + 1 : Nat) : Int) < 1048576) = decide (K.gen k.toNat i.toNat + 1 < MG) := by rw [decide_eq_decide]; unfold MG; omega
        by_cases hw : K.gen k.toNat i.toNat + 1 < MG
        · have FIN3 : Hid (∀ W, Pt w lo hi q K w.heap.size (k, i, g) (q.put + 1) (up3 (up3 (up3 (slotV q K) k.toNat i.toNat 5 (.bool false)) k.toNat i.toNat 2 (.int .i64 ((K.gen k.toNat i.toNat + 1 : Nat) : Int))) k.toNat i.toNat 4 (.int .i64 (q.put : Int))) W → (∃ q' : RPl, RA W q' (freed K k.toNat i.toNat) ∧ q'.d = q.d ∧ q'.b = q.b ∧ q'.put ≤ q.put + 1) ∧ Turn lo hi w W) := Lib.hid fun W hP =>
            ⟨⟨_, RS.toFreed h hni hw hp1 ok hP.rs (fun a b e hx he => by rw [up3_other (fun t => hx ⟨t.1, t.2.1⟩), up3_other (fun t => hx ⟨t.1, t.2.1⟩), up3_other (fun t => hx ⟨t.1, t.2.1⟩)])
              (by simp [up3, slotV]) (by simp [up3, slotV]) (by simp [up3]) (by simp [up3, slotV]) (by simp [up3]) (by simp [up3]), rfl, rfl, Nat.le_refl _⟩, hP.tu⟩
          clear h h' hin hk hi' hp P0 hal hge htk hni hgM ok FIN
          have t5 : decide (((K.gen k.toNat i.toNat + 1 : Nat) : Int) < 1048576) = true := by rw [t4]; exact decide_eq_true hw
          clear t4 hw
          generalize ((K.gen k.toNat i.toNat + 1 : Nat) : Int) = y3 at *
          generalize (K.gen k.toNat i.toNat : Int) = y2 at *
          generalize freed K k.toNat i.toNat = K9 at *
          generalize slotV q K = f0 at *
          generalize k.toNat * K.m + i.toNat = p at *
          generalize hkn : k.toNat = kn at *
          generalize hin : i.toNat = inn at *
          clear hkn hin
          generalize hN : K.n * K.m = N at *
          clear hN
          go_enter Try.func29, Try.ntmps29
          go_wp2_with (first
            | (go_at_call 44; refine R.out.mono ?_; rintro e w' ⟨rfl, rfl⟩; clear R)
            | (go_at_call 34; refine AL.out.mono ?_; rintro e w5 ⟨rfl, hb5⟩; have P5 := PB.out _ hb5; clear AL PB a0 a1 a2 c0 hb5; obtain ⟨b0, b1, b1f⟩ := VW.out _ _ _ P5; obtain ⟨e5, f5⟩ := CE.out _ _ _ 5 (by decide) P5; have P6 := Lib.hid (ST.out _ _ _ 5 (.bool false) (by decide) P5); clear P5))
          clear b0 b1 b1f e5 f5
          generalize w5.setCell ⟨q.b, p * 6 + 5, none⟩ (.bool false) = w6 at *
          obtain ⟨b0, _⟩ := VW.out _ _ _ P6.out
          obtain ⟨e2, f2⟩ := CE.out _ _ _ 2 (by decide) P6.out
          rw [E2.out] at e2
          have P7 := Lib.hid P6.out.drew
          clear P6
          go_still_tail 16, (by kernel_rfl)
          change wpList _ _ _ _ _ w6.drew
          clear b0 e2 f2
          generalize w6.drew = w7 at *
          obtain ⟨b0, _⟩ := VW.out _ _ _ P7.out
          obtain ⟨e2, f2⟩ := CE.out _ _ _ 2 (by decide) P7.out
          rw [E2.out] at e2
          have P8 := ST.out _ _ _ 2 (.int .i64 y3) (by decide) P7.out
          obtain ⟨b0', _⟩ := VW.out _ _ _ P8
          obtain ⟨e2', _⟩ := CE.out _ _ _ 2 (by decide) P8
          rw [E2'.out] at e2'
          have P8 := Lib.hid P8
          clear P7
          go_wp2
          clear b0 e2 f2 b0' e2'
          generalize w7.setCell ⟨q.b, p * 6 + 2, none⟩ (.int .i64 y3) = w8 at *
          obtain ⟨b0, b1, b1f⟩ := VW.out _ _ _ P8.out
          obtain ⟨e4, f4⟩ := CE.out _ _ _ 4 (by decide) P8.out
          have P9 := Lib.hid P8.out.drew
          clear P8
          go_still_tail 11, (by kernel_rfl)
          change wpList _ _ _ _ _ w8.drew
          clear b0 b1 b1f e4 f4
          generalize w8.drew = w9 at *
          obtain ⟨b0, b1, b1f⟩ := VW.out _ _ _ P9.out
          obtain ⟨e4, f4⟩ := CE.out _ _ _ 4 (by decide) P9.out
          have P10 := ST.out _ _ _ 4 (.int .i64 (q.put : Int)) (by decide) P9.out
          obtain ⟨_, b1', b1f'⟩ := VW.out _ _ _ P10
          have P11 := Lib.hid (FIN3.out _ (P10.setPut (q.put + 1)))
          clear P9 P10 VW CE ST FIN3 E2 E2'
          generalize ((q.put + 1 : Nat) : Int) = yq at *
          generalize (q.put : Int) = yp at *
          go_wp2
          go_ret
          exact ⟨rfl, P11.out⟩
        · have FIN3 : Hid (∀ W, Pt w lo hi q K w.heap.size (k, i, g) q.put (up3 (up3 (slotV q K) k.toNat i.toNat 5 (.bool false)) k.toNat i.toNat 2 (.int .i64 ((K.gen k.toNat i.toNat + 1 : Nat) : Int))) W → (∃ q' : RPl, RA W q' (freed K k.toNat i.toNat) ∧ q'.d = q.d ∧ q'.b = q.b ∧ q'.put ≤ q.put + 1) ∧ Turn lo hi w W) := Lib.hid fun W hP =>
            ⟨⟨_, RS.toWorn h hni hw ok hP.rs (fun a b e hx he => by rw [up3_other (fun t => hx ⟨t.1, t.2.1⟩), up3_other (fun t => hx ⟨t.1, t.2.1⟩)])
              (by simp [up3, slotV]) (by simp [up3, slotV]) (by simp [up3]) (by simp [up3, slotV]) (by simp [up3, slotV, rowNo_out hni]) (by simp [up3]), rfl, rfl, Nat.le_succ _⟩, hP.tu⟩
          clear h h' hin hk hi' hp P0 hal hge htk hni hgM ok FIN
          have t5 : decide (((K.gen k.toNat i.toNat + 1 : Nat) : Int) < 1048576) = false := by rw [t4]; exact decide_eq_false hw
          clear t4 hw
          generalize ((K.gen k.toNat i.toNat + 1 : Nat) : Int) = y3 at *
          generalize (K.gen k.toNat i.toNat : Int) = y2 at *
          generalize freed K k.toNat i.toNat = K9 at *
          generalize slotV q K = f0 at *
          generalize k.toNat * K.m + i.toNat = p at *
          generalize hkn : k.toNat = kn at *
          generalize hin : i.toNat = inn at *
          clear hkn hin
          generalize hN : K.n * K.m = N at *
          clear hN
          go_enter Try.func29, Try.ntmps29
          go_wp2_with (first
            | (go_at_call 44; refine R.out.mono ?_; rintro e w' ⟨rfl, rfl⟩; clear R)
            | (go_at_call 34; refine AL.out.mono ?_; rintro e w5 ⟨rfl, hb5⟩; have P5 := PB.out _ hb5; clear AL PB a0 a1 a2 c0 hb5; obtain ⟨b0, b1, b1f⟩ := VW.out _ _ _ P5; obtain ⟨e5, f5⟩ := CE.out _ _ _ 5 (by decide) P5; have P6 := Lib.hid (ST.out _ _ _ 5 (.bool false) (by decide) P5); clear P5))
          clear b0 b1 b1f e5 f5
          generalize w5.setCell ⟨q.b, p * 6 + 5, none⟩ (.bool false) = w6 at *
          obtain ⟨b0, _⟩ := VW.out _ _ _ P6.out
          obtain ⟨e2, f2⟩ := CE.out _ _ _ 2 (by decide) P6.out
          rw [E2.out] at e2
          have P7 := Lib.hid P6.out.drew
          clear P6
          go_still_tail 16, (by kernel_rfl)
          change wpList _ _ _ _ _ w6.drew
          clear b0 e2 f2
          generalize w6.drew = w7 at *
          obtain ⟨b0, _⟩ := VW.out _ _ _ P7.out
          obtain ⟨e2, f2⟩ := CE.out _ _ _ 2 (by decide) P7.out
          rw [E2.out] at e2
          have P8 := ST.out _ _ _ 2 (.int .i64 y3) (by decide) P7.out
          obtain ⟨b0', _⟩ := VW.out _ _ _ P8
          obtain ⟨e2', _⟩ := CE.out _ _ _ 2 (by decide) P8
          rw [E2'.out] at e2'
          have P8 := Lib.hid P8
          clear P7
          go_wp2
          go_ret
          exact ⟨rfl, (FIN3.out _ P8.out)⟩
  · rw [rat_out hin] at R
    rw [if_pos (.inl hin)]
    clear h h' hin P0 AL
    go_enter Try.func29, Try.ntmps29
    go_wp2_with (go_at_call 44; refine R.out.mono ?_; rintro e w' ⟨rfl, rfl⟩; clear R)
    go_ret
    exact ⟨rfl, FIN.out _ (Below.refl _ _)⟩
end
end Go.Proofs.Ytdanpdlbbgcidaa
