/- The document's pool: Take. -/
import Derived.Test.YtdanpdlbbgcidaaIdRef6
import Derived.Test.YtdanpdlbbgcidaaIdOnceW
namespace Go.Proofs.Ytdanpdlbbgcidaa
open Go.RowKit Ids
set_option linter.unusedVariables false

/-- the slots are f, a name lies in its box, and nothing but the slots has turned -/
structure Pt (w : World) (lo hi : Nat) (q : RPl) (K : St) (s : Nat) (x : I3) (put : Nat) (f : Sf) (W : World) : Prop where
  rs : RS W q.d q.b q.c put K.n K.m f
  bx : W.heap[s]? = some (ido x)
  tu : Turn lo hi w W
  inb : lo ≤ q.b ∧ q.b < hi
  ind : lo ≤ q.d ∧ q.d < hi
section
variable {w W W' : World} {lo hi : Nat} {q : RPl} {K : St} {s put : Nat} {x : I3} {f : Sf}
theorem Pt.view (h : Pt w lo hi q K s x put f W) : W.cell? ⟨q.d, 0, none⟩ = some (Value.slice (some ⟨q.b, 0, none⟩) (K.n * K.m) q.c) ∧ W.cell? ⟨s, 0, none⟩ = some (.int .i64 x.1) ∧ W.cell? ⟨s, 1, none⟩ = some (.int .i64 x.2.1) ∧ W.cell? ⟨s, 2, none⟩ = some (.int .i64 x.2.2) := by
  obtain ⟨⟨a0, a1, a2⟩, _⟩ := box3 h.bx
  exact ⟨h.rs.box0, a0, a1, a2⟩
theorem Pt.cell (h : Pt w lo hi q K s x put f W) {k i e : Nat} (hk : k < K.n) (hm : i < K.m) (he : e < 6) : W.cell? ⟨q.b, (k * K.m + i) * 6 + e, none⟩ = some (f k i e) ∧ W.frozen? ⟨q.b, (k * K.m + i) * 6 + e, none⟩ = false := h.rs.at_ hk hm he
theorem Pt.set (h : Pt w lo hi q K s x put f W) {k i e : Nat} (hk : k < K.n) (hm : i < K.m) (he : e < 6) (v : Value) : Pt w lo hi q K s x put (up3 f k i e v) (W.setCell ⟨q.b, (k * K.m + i) * 6 + e, none⟩ v) := by
  obtain ⟨cur, h1, _⟩ := h.rs.slots
  exact ⟨h.rs.set hk hm he v, (heap_ne (ne_type h.bx h1 (by decide)) v).trans h.bx, h.tu.set (p := ⟨q.b, (k * K.m + i) * 6 + e, none⟩) h.inb.1 h.inb.2 v, h.inb, h.ind⟩
theorem Pt.below (h : Pt w lo hi q K s x put f W) (hb : Below W.heap.size W W') : Pt w lo hi q K s x put f W' := by
  have hl : lo ≤ W.heap.size := by have := heap_lt h.rs.box; have := h.ind; omega
  exact ⟨h.rs.below hb, (hb.block _ (heap_lt h.bx)).trans h.bx, h.tu.below hl hb, h.inb, h.ind⟩
theorem Pt.drewN (h : Pt w lo hi q K s x put f W) (n : Nat) : Pt w lo hi q K s x put f (W.drewN n) := h.below (below_dn _ _)
theorem Pt.drew (h : Pt w lo hi q K s x put f W) : Pt w lo hi q K s x put f W.drew := h.below ((Below.refl _ _).drew)
theorem RA.pt (h : RA w q K) (hd : lo ≤ q.d ∧ q.d < hi) (hb : lo ≤ q.b ∧ q.b < hi) (x : I3) : Pt w lo hi q K w.heap.size x q.put (slotV q K) (w.alloc (ido x)) :=
  ⟨(h.below (bel1 w _)).rs, at1 w _, Turn.of (bel1 w _) (by have := heap_lt h.box; omega), hb, hd⟩
theorem rowNo_in {k i : Nat} (h : i ∈ K.row k) : rowNo q K k i = (q.when_ k i : Int) := if_pos h
theorem rowNo_out {k i : Nat} (h : i ∉ K.row k) : rowNo q K k i = -1 := if_neg h
set_option maxHeartbeats 8000000 in
set_option maxRecDepth 100000 in
/-- a name that was given before -/
theorem rtake_any (h : RA w q K) (hd : lo ≤ q.d ∧ q.d < hi) (hb : lo ≤ q.b ∧ q.b < hi) (k i g : Int) : Calls Try.prog 28 #[.pointer (some ⟨q.d, 0, none⟩), .agg #[.int .i64 k, .int .i64 i, .int .i64 g]] w fun e w' => e = .returned (.int .i64 ((take K k i g).2 : Nat)) ∧ RA w' q (take K k i g).1 ∧ Turn lo hi w w' := by
  have P0 := h.pt hd hb (k, i, g)
  have h' := h.below (bel1 w (ido (k, i, g)))
  have R := Lib.hid (rat_any h' k i)
  obtain ⟨c0, a0, a1, a2⟩ := P0.view
  simp only at a0 a1 a2
  have hs := h.size
  have FIN : Hid (RA (w.alloc (ido (k, i, g))) q K ∧ Turn lo hi w (w.alloc (ido (k, i, g)))) := Lib.hid ⟨h', P0.tu⟩
  have FIN2 : Hid (∀ n, RA ((w.alloc (ido (k, i, g))).drewN n) q K ∧ Turn lo hi w ((w.alloc (ido (k, i, g))).drewN n)) := Lib.hid fun n => ⟨h'.below (below_dn _ _), (P0.drewN n).tu⟩
  unfold Ids.take
  by_cases hin : In K k i
  · rw [rat_in hin] at R
    have hk : k.toNat < K.n := by obtain ⟨_, _, _, _⟩ := hin; omega
    have hi' : i.toNat < K.m := by obtain ⟨_, _, _, _⟩ := hin; omega
    have hp := pos_lt hk hi'
    have t1 : ((k.toNat * K.m + i.toNat : Nat) : Int) < ((K.n * K.m : Nat) : Int) := by omega
    have t2 : ¬ ((k.toNat * K.m + i.toNat : Nat) : Int) < 0 := by omega
    by_cases hg : g < 0
    · rw [if_pos (.inr hg)]
      clear h h' hin hk hi' hp P0 FIN2
      generalize k.toNat * K.m + i.toNat = p at *
      generalize K.n * K.m = N at *
      go_enter Try.func28, Try.ntmps28
      go_wp2_with (go_at_call 44; refine R.out.mono ?_; rintro e w' ⟨rfl, rfl⟩; clear R)
      go_ret
      exact ⟨rfl, FIN.out⟩
    · rw [if_neg (by rintro (e | e); exact e hin; exact hg e)]
      have c4 := (P0.cell hk hi' (e := 4) (by decide)).1
      replace c4 : (w.alloc (ido (k, i, g))).cell? ⟨q.b, (k.toNat * K.m + i.toNat) * 6 + 4, none⟩ = some (.int .i64 (rowNo q K k.toNat i.toNat)) := c4
      by_cases hr : i.toNat ∈ K.row k.toNat
      · have hc : (K.row k.toNat).contains i.toNat = true := List.contains_iff_mem.2 hr
        rw [if_neg (by rw [hc]; decide)]
        rw [rowNo_in hr] at c4
        have t3 : ¬ ((q.when_ k.toNat i.toNat : Nat) : Int) < 0 := by omega
        have c2 := (P0.cell hk hi' (e := 2) (by decide)).1
        have c3 := (P0.cell hk hi' (e := 3) (by decide)).1
        replace c2 : (w.alloc (ido (k, i, g))).cell? ⟨q.b, (k.toNat * K.m + i.toNat) * 6 + 2, none⟩ = some (.int .i64 (K.gen k.toNat i.toNat : Int)) := c2
        replace c3 : (w.alloc (ido (k, i, g))).cell? ⟨q.b, (k.toNat * K.m + i.toNat) * 6 + 3, none⟩ = some (.int .i64 (K.bnd k.toNat i.toNat : Int)) := c3
        by_cases hg1 : g < K.gen k.toNat i.toNat
        · rw [if_pos (.inl hg1)]
          clear h h' hin hk hi' hp P0 hc hr FIN
          generalize (q.when_ k.toNat i.toNat : Int) = y4 at *
          generalize (K.gen k.toNat i.toNat : Int) = y2 at *
          generalize (K.bnd k.toNat i.toNat : Int) = y3 at *
          generalize k.toNat * K.m + i.toNat = p at *
          generalize K.n * K.m = N at *
          have t4 : decide (g < y2) = true := decide_eq_true hg1
          go_enter Try.func28, Try.ntmps28
          go_wp2_with (go_at_call 44; refine R.out.mono ?_; rintro e w' ⟨rfl, rfl⟩; clear R)
          go_quiet (fail)
          go_wp2
          go_ret
          exact ⟨rfl, FIN2.out _⟩
        · by_cases hg2 : (K.bnd k.toNat i.toNat : Int) ≤ g
          · rw [if_pos (.inr hg2)]
            clear h h' hin hk hi' hp P0 hc hr FIN
            generalize (q.when_ k.toNat i.toNat : Int) = y4 at *
            generalize (K.gen k.toNat i.toNat : Int) = y2 at *
            generalize (K.bnd k.toNat i.toNat : Int) = y3 at *
            generalize k.toNat * K.m + i.toNat = p at *
            generalize K.n * K.m = N at *
            have t4 : decide (g < y2) = false := decide_eq_false hg1
            have t5 : g ≥ y3 := hg2
            go_enter Try.func28, Try.ntmps28
            go_wp2_with (go_at_call 44; refine R.out.mono ?_; rintro e w' ⟨rfl, rfl⟩; clear R)
            go_quiet (fail)
            go_wp2
            go_ret
            exact ⟨rfl, FIN2.out _⟩
          · rw [if_neg (by rintro (e | e); exact hg1 e; exact hg2 e)]
            have hgn : ((g.toNat : Nat) : Int) = g := Int.toNat_of_nonneg (by omega)
            have hgM : g.toNat < MG := by have := h.ok.bnd k.toNat i.toNat; omega
            have ok := h.ok.give (i := i.toNat) hk (Nat.le_of_lt hgM)
            have FIN3 : Hid (∀ W, Pt w lo hi q K w.heap.size (k, i, g) q.put (up3 (up3 (up3 (slotV q K) k.toNat i.toNat 4 (.int .i64 (-1))) k.toNat i.toNat 2 (.int .i64 g)) k.toNat i.toNat 5 (.bool true)) W → RA W q (give K k.toNat i.toNat g.toNat) ∧ Turn lo hi w W) := Lib.hid fun W hP =>
              ⟨RS.toGive h hgM ok hP.rs (fun a b e hx he => by rw [up3_other (fun t => hx ⟨t.1, t.2.1⟩), up3_other (fun t => hx ⟨t.1, t.2.1⟩), up3_other (fun t => hx ⟨t.1, t.2.1⟩)])
                (by simp [up3, slotV]) (by simp [up3, slotV]) (by rw [hgn]; simp [up3]) (by simp [up3, slotV]) (by simp [up3]) (by simp [up3]), hP.tu⟩
            have VW : Hid (∀ f W, Pt w lo hi q K w.heap.size (k, i, g) q.put f W → W.cell? ⟨q.d, 0, none⟩ = some (Value.slice (some ⟨q.b, 0, none⟩) (K.n * K.m) q.c) ∧ W.cell? ⟨w.heap.size, 2, none⟩ = some (.int .i64 g)) := Lib.hid fun f W hP => ⟨hP.view.1, hP.view.2.2.2⟩
            have CE : Hid (∀ f W e, e < 6 → Pt w lo hi q K w.heap.size (k, i, g) q.put f W → W.cell? ⟨q.b, (k.toNat * K.m + i.toNat) * 6 + e, none⟩ = some (f k.toNat i.toNat e) ∧ W.frozen? ⟨q.b, (k.toNat * K.m + i.toNat) * 6 + e, none⟩ = false) := Lib.hid fun f W e he hP => hP.cell hk hi' he
            have ST : Hid (∀ f W e v, e < 6 → Pt w lo hi q K w.heap.size (k, i, g) q.put f W → Pt w lo hi q K w.heap.size (k, i, g) q.put (up3 f k.toNat i.toNat e v) (W.setCell ⟨q.b, (k.toNat * K.m + i.toNat) * 6 + e, none⟩ v)) := Lib.hid fun f W e v he hP => hP.set hk hi' he v
            have P1 : Hid (∀ n, Pt w lo hi q K w.heap.size (k, i, g) q.put (slotV q K) ((w.alloc (ido (k, i, g))).drewN n)) := Lib.hid fun n => P0.drewN n
            clear h h' hin hk hi' hp P0 hc hr FIN FIN2 hgM ok hgn
            generalize (q.when_ k.toNat i.toNat : Int) = y4 at *
            generalize (K.gen k.toNat i.toNat : Int) = y2 at *
            generalize (K.bnd k.toNat i.toNat : Int) = y3 at *
            generalize give K k.toNat i.toNat g.toNat = K9 at *
            generalize slotV q K = f0 at *
            generalize k.toNat * K.m + i.toNat = p at *
            generalize hkn : k.toNat = kn at *
            generalize hin : i.toNat = inn at *
            clear hkn hin
            generalize hN : K.n * K.m = N at *
            clear hN
            have t4 : decide (g < y2) = false := decide_eq_false hg1
            have t5 : decide (g ≥ y3) = false := decide_eq_false hg2
            go_enter Try.func28, Try.ntmps28
            go_wp2_with (go_at_call 44; refine R.out.mono ?_; rintro e w' ⟨rfl, rfl⟩; clear R)
            go_quiet (fail)
            rename_i nq
            have P2 := P1.out nq
            clear P1 c0 a0 a1 a2 c2 c3 c4
            obtain ⟨b0, b2⟩ := VW.out _ _ P2
            obtain ⟨e4, f4⟩ := CE.out _ _ 4 (by decide) P2
            have P3 := ST.out _ _ 4 (.int .i64 (-1)) (by decide) P2
            have P4 := P3.drew
            obtain ⟨b0', b2'⟩ := VW.out _ _ P3
            obtain ⟨e2', f2'⟩ := CE.out _ _ 2 (by decide) P3
            have P2 := Lib.hid P2
            have P4 := Lib.hid P4
            clear P3
            go_wp2
            clear b0 b2 e4 f4 P2
            generalize ((w.alloc (ido (k, i, g))).drewN nq).setCell ⟨q.b, p * 6 + 4, none⟩ (.int .i64 (-1)) = w2 at *
            go_still_tail 9, (by kernel_rfl)
            change wpList _ _ _ _ _ w2.drew
            clear b0' b2' e2' f2'
            obtain ⟨b0, b2⟩ := VW.out _ _ P4.out
            obtain ⟨e2, f2⟩ := CE.out _ _ 2 (by decide) P4.out
            have P5 := ST.out _ _ 2 (.int .i64 g) (by decide) P4.out
            obtain ⟨b0', b2'⟩ := VW.out _ _ P5
            obtain ⟨e5', f5'⟩ := CE.out _ _ 5 (by decide) P5
            have P6 := Lib.hid (FIN3.out _ (ST.out _ _ 5 (.bool true) (by decide) P5))
            clear P4 P5 VW CE ST FIN3
            generalize w2.drew = w3 at *
            go_wp2
            go_ret
            exact ⟨rfl, P6.out⟩
      · have hc : (K.row k.toNat).contains i.toNat = false := by
          rw [← Bool.not_eq_true]
          exact fun e => hr (List.contains_iff_mem.1 e)
        rw [if_pos hc]
        rw [rowNo_out hr] at c4
        clear h h' hin hk hi' hp P0 FIN2 hc hr
        generalize k.toNat * K.m + i.toNat = p at *
        generalize K.n * K.m = N at *
        go_enter Try.func28, Try.ntmps28
        go_wp2_with (go_at_call 44; refine R.out.mono ?_; rintro e w' ⟨rfl, rfl⟩; clear R)
        go_ret
        exact ⟨rfl, FIN.out⟩
  · rw [rat_out hin] at R
    rw [if_pos (.inl hin)]
    clear h h' hin P0 FIN2
    go_enter Try.func28, Try.ntmps28
    go_wp2_with (go_at_call 44; refine R.out.mono ?_; rintro e w' ⟨rfl, rfl⟩; clear R)
    go_ret
    exact ⟨rfl, FIN.out⟩
end
end Go.Proofs.Ytdanpdlbbgcidaa
