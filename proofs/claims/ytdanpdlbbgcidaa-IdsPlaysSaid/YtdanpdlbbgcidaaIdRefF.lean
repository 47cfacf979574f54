/- The document's pool: List. -/
import Derived.Test.YtdanpdlbbgcidaaIdRefE
namespace Go.Proofs.Ytdanpdlbbgcidaa
open Go.RowKit Ids
set_option linter.unusedVariables false

section
variable {w W W' : World} {q : RPl} {K : St}
/-- one name more, of a box that lies anywhere -/
theorem push_at (W : World) {B : Nat} {v : Value} {l : List I3} (h : OwnI W B v l) (hB : B ≤ W.heap.size) (hl : l.length ≤ 10000) (x : I3) (b : Nat) (hb : W.heap[b]? = some (ido x)) (ty : TypeId) :
    ∃ v' w', (Builtin.append_ #[40, 40] ty #[v, .slice (some ⟨b, 0, none⟩) 1 1]).run Try.prog W = .ok v' w' ∧ OwnI w' B v' (l ++ [x]) ∧ Below B W w' := by
  obtain ⟨v', w', hr, ho, hg, hb2⟩ := h.app (P := Try.prog) (t := 40) (ty := ty) Try.underlying40 id_info rfl (by decide) idE_len idE_one hB [x] ⟨b, 0, none⟩ 1 (fun j y hj => by
    match j, hj with
    | 0, hj =>
      simp only [List.getElem?_cons_zero, Option.some.injEq] at hj
      subst hj
      intro c u hu
      have hc : c < 3 := (List.getElem?_eq_some_iff.1 hu).1
      rw [Addr.add_mid, cellAt hb]
      have : c = 0 ∨ c = 1 ∨ c = 2 := by omega
      rcases this with rfl | rfl | rfl <;> simpa [idE] using hu) (by simp; omega) (by decide) (.inl (by simp))
  exact ⟨v', w', hr, ho, (Below.refl B W).grown hg hB (fun k hk => (h.blk hk).1)⟩
set_option maxHeartbeats 8000000 in
set_option maxRecDepth 100000 in
/-- all names that are somebody's -/
theorem rlist_any (h : RA w q K) : Calls Try.prog 33 #[.pointer (some ⟨q.d, 0, none⟩)] w fun e w' => (∃ v, e = .returned v ∧ OwnI w' w.heap.size v ((list K).map toI)) ∧ Below w.heap.size w w' := by
  have hs := h.size
  have hm1 := h.ok.m1
  obtain ⟨L, hL⟩ : ∃ L : Nat → List I3, L = fun p => (lst K p).map toI := ⟨_, rfl⟩
  have L0 : Hid (L 0 = []) := Lib.hid (by rw [hL]; rfl)
  have LE : Hid ((list K).map toI = L (K.n * K.m)) := Lib.hid (by rw [hL]; rfl)
  have LS : ∀ p, p < K.n * K.m → L (p + 1) = if taken K (p / K.m) (p % K.m) = true then L p ++ [(((p / K.m : Nat) : Int), ((p % K.m : Nat) : Int), (K.gen (p / K.m) (p % K.m) : Int))] else L p := fun p hp => by
    obtain ⟨h1, h2, h3⟩ := pos_of hm1 hp
    have := lst_succ K (k := p / K.m) (i := p % K.m) h2
    rw [h3] at this
    rw [hL]
    show (lst K (p + 1)).map toI = _
    rw [this]
    split
    · rw [List.map_append]; rfl
    · rfl
  have LN : ∀ p, p ≤ K.n * K.m → (L p).length ≤ 256 := fun p hp => by
    rw [hL]
    show ((lst K p).map toI).length ≤ 256
    rw [List.length_map]
    have := lst_len K p
    omega
  have BX : Hid (∀ W, Below w.heap.size w W → W.cell? ⟨q.d, 0, none⟩ = some (Value.slice (some ⟨q.b, 0, none⟩) (K.n * K.m) q.c)) := Lib.hid fun W hW => (h.below hW).box0
  have SL : Hid (∀ W, Below w.heap.size w W → ∀ p, p < K.n * K.m → W.cell? ⟨q.b, p * 6, none⟩ = some (.int .i64 ((p / K.m : Nat) : Int)) ∧ W.cell? ⟨q.b, p * 6 + 1, none⟩ = some (.int .i64 ((p % K.m : Nat) : Int)) ∧ W.cell? ⟨q.b, p * 6 + 2, none⟩ = some (.int .i64 (K.gen (p / K.m) (p % K.m) : Int)) ∧ W.cell? ⟨q.b, p * 6 + 5, none⟩ = some (.bool (taken K (p / K.m) (p % K.m)))) := Lib.hid fun W hW p hp => by
    obtain ⟨h1, h2, h3⟩ := pos_of hm1 hp
    have h9 := h.below hW
    obtain ⟨s0, s1, s2, _, _, s5⟩ := (h9.slot h1 h2).1
    rw [h3] at s0 s1 s2 s5
    exact ⟨s0, s1, s2, s5⟩
  have PUSH : Hid (∀ p W v, p < K.n * K.m → Below w.heap.size w W → OwnI W w.heap.size v (L p) → taken K (p / K.m) (p % K.m) = true → ∀ b, W.heap[b]? = some (.cells #[.int .i64 ((p / K.m : Nat) : Int), .int .i64 ((p % K.m : Nat) : Int), .int .i64 (K.gen (p / K.m) (p % K.m) : Int)] 33 (0, 0)) → ∃ v' w', Hid ((Builtin.append_ #[40, 40] 40 #[v, .slice (some ⟨b, 0, none⟩) 1 1]).run Try.prog W = .ok v' w') ∧ Hid (OwnI w' w.heap.size v' (L (p + 1)) ∧ Below w.heap.size w w')) := Lib.hid fun p W v hp hW ho ht b hb => by
    obtain ⟨v', w', e1, e2, e3⟩ := push_at W ho hW.size (by have := LN p (by omega); omega) (((p / K.m : Nat) : Int), ((p % K.m : Nat) : Int), (K.gen (p / K.m) (p % K.m) : Int)) b hb 40
    refine ⟨v', w', Lib.hid e1, Lib.hid ⟨?_, hW.trans e3⟩⟩
    rw [LS p hp, if_pos ht]
    exact e2
  have SKIP : Hid (∀ p, p < K.n * K.m → taken K (p / K.m) (p % K.m) = false → L (p + 1) = L p) := Lib.hid fun p hp ht => by
    rw [LS p hp, if_neg (by rw [ht]; decide)]
  rw [LE.out]
  clear h hm1 LE LS LN hL
  obtain ⟨N, hN⟩ : ∃ N, N = K.n * K.m := ⟨_, rfl⟩
  rw [← hN] at BX SL PUSH SKIP hs ⊢
  clear hN
  go_enter Try.func33, Try.ntmps33
  go_wp2
  go_loopw [4, 3] (fun nx v wr => ∃ p : Nat, p ≤ N ∧ nx = .int .i64 p ∧ Hid (OwnI wr w.heap.size v (L p)) ∧ Hid (Below w.heap.size w wr)) (fun nx _ _ => N - (intOf nx).toNat)
  case atStart => exact ⟨0, Nat.zero_le _, rfl, by rw [L0.out]; exact Lib.hid (rw_nil _ _), Lib.hid (Below.refl _ _)⟩
  case round =>
    obtain ⟨p, hp, rfl, HO, HB⟩ := hrel
    clear L0
    have c0 := BX.out _ HB.out
    by_cases hpl : p < N
    · have t1 : (p : Int) < (N : Int) := by omega
      obtain ⟨s0, s1, s2, s5⟩ := SL.out _ HB.out p hpl
      obtain ⟨A3, c3, rfl⟩ := HO.out.form
      cases ht : taken K (p / K.m) (p % K.m) with
      | false =>
        rw [ht] at s5
        have NX : Hid (OwnI wr w.heap.size (Value.slice A3 (L p).length c3) (L (p + 1))) := Lib.hid (by rw [SKIP.out p hpl ht]; exact HO.out)
        clear PUSH SKIP SL ht s0 s1 s2 HO
        generalize (L p).length = lp at *
        go_wp2
        go_roundw
        case rel => exact ⟨p + 1, by omega, by go_num, NX, HB⟩
        case measure => simp [intOf]; omega
      | true =>
        rw [ht] at s5
        have BP : ∀ p : Lat grows wr, Below w.heap.size w p.W := fun p => HB.out.trans ((lat_below p).mono HB.out.size)
        have c0' : ∀ p : Lat grows wr, p.W.cell? ⟨q.d, 0, none⟩ = some (Value.slice (some ⟨q.b, 0, none⟩) N q.c) := fun p => BX.out _ (BP p)
        have s0' : ∀ p' : Lat grows wr, p'.W.cell? ⟨q.b, p * 6, none⟩ = some (.int .i64 ((p / K.m : Nat) : Int)) := fun p' => (SL.out _ (BP p') p hpl).1
        have s1' : ∀ p' : Lat grows wr, p'.W.cell? ⟨q.b, p * 6 + 1, none⟩ = some (.int .i64 ((p % K.m : Nat) : Int)) := fun p' => (SL.out _ (BP p') p hpl).2.1
        have s2' : ∀ p' : Lat grows wr, p'.W.cell? ⟨q.b, p * 6 + 2, none⟩ = some (.int .i64 (K.gen (p / K.m) (p % K.m) : Int)) := fun p' => (SL.out _ (BP p') p hpl).2.2.1
        have PU : Hid (∀ W, Below wr.heap.size wr W → ∀ b, W.heap[b]? = some (.cells #[.int .i64 ((p / K.m : Nat) : Int), .int .i64 ((p % K.m : Nat) : Int), .int .i64 (K.gen (p / K.m) (p % K.m) : Int)] 33 (0, 0)) → ∃ v' w', Hid ((Builtin.append_ #[40, 40] 40 #[.slice A3 (L p).length c3, .slice (some ⟨b, 0, none⟩) 1 1]).run Try.prog W = .ok v' w') ∧ Hid (OwnI w' w.heap.size v' (L (p + 1)) ∧ Below w.heap.size w w')) := Lib.hid fun W hW b hb => PUSH.out p W _ hpl (HB.out.trans (hW.mono HB.out.size)) (HO.out.below hW) ht b hb
        clear PUSH SKIP SL BX ht HO HB BP
        generalize (L p).length = lp at *
        generalize (K.gen (p / K.m) (p % K.m) : Int) = y2 at *
        generalize ((p / K.m : Nat) : Int) = y0 at *
        generalize ((p % K.m : Nat) : Int) = y1 at *
        go_wp2
        refine Og.grow 27 (by kernel_rfl) (by kernel_rfl) fun hc hf => ?_
        clear hc hf
        simp only [List.take_succ_cons, List.take_zero, List.drop_succ_cons, List.drop_zero]
        iterate 26 (refine Og.det [] rfl (fun J hJ => ?_); go_simp; refine hJ _ _ ?_; clear hJ J)
        refine Og.such 48 (Og.Fresh wr.heap.size #[.int .i64 y0, .int .i64 y1, .int .i64 y2] 33 1) [] rfl (Og.Fresh.lasts _ _ _ _) (Og.Fresh.noBool _ _ _ _) (fun J hJ => ?_)
        go_simp
        refine ⟨fun p => Og.Fresh.new p.W _ (lat_below p).size _ _ _, hJ _ _ ?_⟩
        clear hJ J
        refine Og.fin fun W hW => ?_
        simp only [Og.opened_cons, Og.opened_nil]
        rintro v ⟨b, rfl, _, _, hbx⟩
        obtain ⟨v', w', HR, HN⟩ := PU.out W hW b hbx
        clear PU c0 c0' s0 s0' s1 s1' s2 s2' s5 hbx hW
        go_wp2_with (at_builtin; refine wpList_append _ rfl (.tmp 22) (.tmp 48) _ _ rfl _ (.slice (some ⟨_, 0, none⟩) 1 1) rfl rfl _ _ HR.out ?_; clear HR)
        go_roundw
        case rel => exact ⟨p + 1, by omega, by go_num, Lib.hid HN.out.1, Lib.hid HN.out.2⟩
        case measure => simp [intOf]; omega
    · obtain rfl : p = N := by omega
      have t1 : ¬ (p : Int) < (p : Int) := by omega
      obtain ⟨A3, c3, rfl⟩ := HO.out.form
      clear PUSH SKIP SL
      go_wp2
      go_ret
      exact ⟨⟨_, rfl, HO.out⟩, HB.out⟩
end
end Go.Proofs.Ytdanpdlbbgcidaa
