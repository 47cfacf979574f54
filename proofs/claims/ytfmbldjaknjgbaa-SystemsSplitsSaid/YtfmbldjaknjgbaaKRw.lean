/- PzRow, PzSame, ArRows0, in one text. -/
import Derived.Test.YtfmbldjaknjgbaaKPw
import Derived.Test.YtfmbldjaknjgbaaKBase
import Derived.Test.YtfmbldjaknjgbaaKPz
namespace Go.Proofs.Ytfmbldjaknjgbaa
open Go.RowKit Pz
set_option linter.unusedVariables false

abbrev bnE (b : Bn) : List Value := b.row
abbrev OwnB (W : World) (B : Nat) (v : Value) (l : List Bn) : Prop := Rw bnE 34 11 W B v l
theorem bnE_len (x : Bn) : (bnE x).length = 11 := rfl
theorem bnE_one (x : Bn) : ∀ u ∈ bnE x, u.oneCell' = true := by
  intro u hu
  simp only [bnE, Bn.row, List.mem_cons, List.not_mem_nil, or_false] at hu
  rcases hu with rfl | rfl | rfl | rfl | rfl | rfl | rfl | rfl | rfl | rfl | rfl <;> rfl
theorem bundle_info : (Try.prog.info? 34).map (fun i => (i.zero, i.size, i.bytes)) = some (some (.agg #[.int .i64 0, .int .i64 0, .int .i64 0, .int .i64 0, .int .i64 0, .int .i64 0, .int .i64 0, .int .i64 0, .int .i64 0, .int .i64 0, .int .i64 0]), 11, 88) := by kernel_rfl
/-- these entities lie at A, below block B -/
def RdB (W : World) (B : Nat) (A : Option Addr) (l : List Bn) : Prop :=
  ∀ (j : Nat) (x : Bn), l[j]? = some x → ∃ g o, A = some ⟨g, o, none⟩ ∧ g < B ∧ (W.cell? ⟨g, o + j * 11, none⟩ = some (.int .i64 x.s) ∧ W.cell? ⟨g, o + j * 11 + 1, none⟩ = some (.int .i64 x.i) ∧ W.cell? ⟨g, o + j * 11 + 2, none⟩ = some (.int .i64 x.g) ∧ W.cell? ⟨g, o + j * 11 + 3, none⟩ = some (.int .i64 x.m) ∧ W.cell? ⟨g, o + j * 11 + 4, none⟩ = some (.int .i64 x.x) ∧ W.cell? ⟨g, o + j * 11 + 5, none⟩ = some (.int .i64 x.y) ∧ W.cell? ⟨g, o + j * 11 + 6, none⟩ = some (.int .i64 x.vx) ∧ W.cell? ⟨g, o + j * 11 + 7, none⟩ = some (.int .i64 x.vy) ∧ W.cell? ⟨g, o + j * 11 + 8, none⟩ = some (.int .i64 x.h) ∧ W.cell? ⟨g, o + j * 11 + 9, none⟩ = some (.int .i64 x.p) ∧ W.cell? ⟨g, o + j * 11 + 10, none⟩ = some (.int .i64 x.l))
section
variable {W W' : World} {B : Nat} {A : Option Addr} {l : List Bn}
theorem RdB.below (h : RdB W B A l) (hb : Below B W W') : RdB W' B A l := fun j x hx => by
  obtain ⟨g, o, e, hg, h0, h1, h2, h3, h4, h5, h6, h7, h8, h9, h10⟩ := h j x hx
  exact ⟨g, o, e, hg, (hb.cell (p := ⟨g, _, none⟩) hg).trans h0, (hb.cell (p := ⟨g, _, none⟩) hg).trans h1, (hb.cell (p := ⟨g, _, none⟩) hg).trans h2, (hb.cell (p := ⟨g, _, none⟩) hg).trans h3, (hb.cell (p := ⟨g, _, none⟩) hg).trans h4, (hb.cell (p := ⟨g, _, none⟩) hg).trans h5, (hb.cell (p := ⟨g, _, none⟩) hg).trans h6, (hb.cell (p := ⟨g, _, none⟩) hg).trans h7, (hb.cell (p := ⟨g, _, none⟩) hg).trans h8, (hb.cell (p := ⟨g, _, none⟩) hg).trans h9, (hb.cell (p := ⟨g, _, none⟩) hg).trans h10⟩
theorem RdB.more (h : RdB W B A l) {B' : Nat} (hB : B ≤ B') : RdB W B' A l := fun j x hx => by
  obtain ⟨g, o, e, hg, h⟩ := h j x hx
  exact ⟨g, o, e, by omega, h⟩
theorem RdB.of_own {c : Nat} {B0 : Nat} (h : OwnB W B0 (.slice A l.length c) l) : RdB W W.heap.size A l := fun j x hx => by
  obtain ⟨g, o, c', e, _, hg, hc⟩ := h.at_ hx
  cases e
  exact ⟨g, o, rfl, hg, (hc 0 _ rfl).1, (hc 1 _ rfl).1, (hc 2 _ rfl).1, (hc 3 _ rfl).1, (hc 4 _ rfl).1, (hc 5 _ rfl).1, (hc 6 _ rfl).1, (hc 7 _ rfl).1, (hc 8 _ rfl).1, (hc 9 _ rfl).1, (hc 10 _ rfl).1⟩
theorem RdB.of_reads (h : ReadsK W B A 11 (l.map Bn.row)) : RdB W B A l := fun j x hx => by
  have hj := (List.getElem?_eq_some_iff.1 hx).1
  obtain ⟨g, o, e, hg, hc⟩ := h (by rw [List.length_map]; omega)
  have hr : (l.map Bn.row)[j]? = some x.row := by rw [List.getElem?_map, hx]; rfl
  exact ⟨g, o, e, hg, hc j _ hr 0 _ rfl, hc j _ hr 1 _ rfl, hc j _ hr 2 _ rfl, hc j _ hr 3 _ rfl, hc j _ hr 4 _ rfl, hc j _ hr 5 _ rfl, hc j _ hr 6 _ rfl, hc j _ hr 7 _ rfl, hc j _ hr 8 _ rfl, hc j _ hr 9 _ rfl, hc j _ hr 10 _ rfl⟩
theorem own_at {c B0 : Nat} (h : OwnB W B0 (.slice A l.length c) l) {k : Nat} {y : Bn} (hk : l[k]? = some y) : ∃ g o, A = some ⟨g, o, none⟩ ∧ B0 ≤ g ∧ (W.cell? ⟨g, o + k * 11, none⟩ = some (.int .i64 y.s) ∧ W.cell? ⟨g, o + k * 11 + 1, none⟩ = some (.int .i64 y.i) ∧ W.cell? ⟨g, o + k * 11 + 2, none⟩ = some (.int .i64 y.g) ∧ W.cell? ⟨g, o + k * 11 + 3, none⟩ = some (.int .i64 y.m) ∧ W.cell? ⟨g, o + k * 11 + 4, none⟩ = some (.int .i64 y.x) ∧ W.cell? ⟨g, o + k * 11 + 5, none⟩ = some (.int .i64 y.y) ∧ W.cell? ⟨g, o + k * 11 + 6, none⟩ = some (.int .i64 y.vx) ∧ W.cell? ⟨g, o + k * 11 + 7, none⟩ = some (.int .i64 y.vy) ∧ W.cell? ⟨g, o + k * 11 + 8, none⟩ = some (.int .i64 y.h) ∧ W.cell? ⟨g, o + k * 11 + 9, none⟩ = some (.int .i64 y.p) ∧ W.cell? ⟨g, o + k * 11 + 10, none⟩ = some (.int .i64 y.l)) ∧ (W.frozen? ⟨g, o + k * 11, none⟩ = false ∧ W.frozen? ⟨g, o + k * 11 + 1, none⟩ = false ∧ W.frozen? ⟨g, o + k * 11 + 2, none⟩ = false ∧ W.frozen? ⟨g, o + k * 11 + 3, none⟩ = false ∧ W.frozen? ⟨g, o + k * 11 + 4, none⟩ = false ∧ W.frozen? ⟨g, o + k * 11 + 5, none⟩ = false ∧ W.frozen? ⟨g, o + k * 11 + 6, none⟩ = false ∧ W.frozen? ⟨g, o + k * 11 + 7, none⟩ = false ∧ W.frozen? ⟨g, o + k * 11 + 8, none⟩ = false ∧ W.frozen? ⟨g, o + k * 11 + 9, none⟩ = false ∧ W.frozen? ⟨g, o + k * 11 + 10, none⟩ = false) := by
  obtain ⟨g, o, c', e, hB, hg, hc⟩ := h.at_ hk
  cases e
  exact ⟨g, o, rfl, hB, ⟨(hc 0 _ rfl).1, (hc 1 _ rfl).1, (hc 2 _ rfl).1, (hc 3 _ rfl).1, (hc 4 _ rfl).1, (hc 5 _ rfl).1, (hc 6 _ rfl).1, (hc 7 _ rfl).1, (hc 8 _ rfl).1, (hc 9 _ rfl).1, (hc 10 _ rfl).1⟩, ⟨(hc 0 _ rfl).2, (hc 1 _ rfl).2, (hc 2 _ rfl).2, (hc 3 _ rfl).2, (hc 4 _ rfl).2, (hc 5 _ rfl).2, (hc 6 _ rfl).2, (hc 7 _ rfl).2, (hc 8 _ rfl).2, (hc 9 _ rfl).2, (hc 10 _ rfl).2⟩⟩
theorem idx_ne {o j k c e : Nat} (hne : j ≠ k) (hc : c < 11) (he : e < 11) : o + k * 11 + e ≠ o + (j * 11 + c) := by omega
/-- one entity of one's own row is another one -/
theorem own_set {g o n c B0 : Nat} (h : OwnB W B0 (.slice (some ⟨g, o, none⟩) n c) l) {k : Nat} (hk : k < l.length) (x : Bn) :
    OwnB (((((((((((W.setCell ⟨g, o + k * 11, none⟩ (.int .i64 x.s)).setCell ⟨g, o + k * 11 + 1, none⟩ (.int .i64 x.i)).setCell ⟨g, o + k * 11 + 2, none⟩ (.int .i64 x.g)).setCell ⟨g, o + k * 11 + 3, none⟩ (.int .i64 x.m)).setCell ⟨g, o + k * 11 + 4, none⟩ (.int .i64 x.x)).setCell ⟨g, o + k * 11 + 5, none⟩ (.int .i64 x.y)).setCell ⟨g, o + k * 11 + 6, none⟩ (.int .i64 x.vx)).setCell ⟨g, o + k * 11 + 7, none⟩ (.int .i64 x.vy)).setCell ⟨g, o + k * 11 + 8, none⟩ (.int .i64 x.h)).setCell ⟨g, o + k * 11 + 9, none⟩ (.int .i64 x.p)).setCell ⟨g, o + k * 11 + 10, none⟩ (.int .i64 x.l)) B0 (.slice (some ⟨g, o, none⟩) n c) (l.set k x) ∧ (∀ B', B' ≤ g → Below B' W (((((((((((W.setCell ⟨g, o + k * 11, none⟩ (.int .i64 x.s)).setCell ⟨g, o + k * 11 + 1, none⟩ (.int .i64 x.i)).setCell ⟨g, o + k * 11 + 2, none⟩ (.int .i64 x.g)).setCell ⟨g, o + k * 11 + 3, none⟩ (.int .i64 x.m)).setCell ⟨g, o + k * 11 + 4, none⟩ (.int .i64 x.x)).setCell ⟨g, o + k * 11 + 5, none⟩ (.int .i64 x.y)).setCell ⟨g, o + k * 11 + 6, none⟩ (.int .i64 x.vx)).setCell ⟨g, o + k * 11 + 7, none⟩ (.int .i64 x.vy)).setCell ⟨g, o + k * 11 + 8, none⟩ (.int .i64 x.h)).setCell ⟨g, o + k * 11 + 9, none⟩ (.int .i64 x.p)).setCell ⟨g, o + k * 11 + 10, none⟩ (.int .i64 x.l))) := by
  rcases h with ⟨e, _⟩ | ⟨g', o', cap, cur, e, h1, h2, h3, h4, h5, h6⟩
  · cases e
  · cases e
    refine ⟨.inr ⟨g, o, c, (((((((((((cur.setIfInBounds (o + k * 11) (.int .i64 x.s)).setIfInBounds (o + k * 11 + 1) (.int .i64 x.i)).setIfInBounds (o + k * 11 + 2) (.int .i64 x.g)).setIfInBounds (o + k * 11 + 3) (.int .i64 x.m)).setIfInBounds (o + k * 11 + 4) (.int .i64 x.x)).setIfInBounds (o + k * 11 + 5) (.int .i64 x.y)).setIfInBounds (o + k * 11 + 6) (.int .i64 x.vx)).setIfInBounds (o + k * 11 + 7) (.int .i64 x.vy)).setIfInBounds (o + k * 11 + 8) (.int .i64 x.h)).setIfInBounds (o + k * 11 + 9) (.int .i64 x.p)).setIfInBounds (o + k * 11 + 10) (.int .i64 x.l)), by rw [List.length_set], h1, Bx.set (Bx.set (Bx.set (Bx.set (Bx.set (Bx.set (Bx.set (Bx.set (Bx.set (Bx.set (Bx.set (h2) _) _) _) _) _) _) _) _) _) _) _, by rw [List.length_set]; exact h3, h4, by simpa using h5, fun j y hj c2 u hu => ?_⟩, fun B' hB => ?_⟩
    · have hc : c2 < 11 := (List.getElem?_eq_some_iff.1 hu).1
      by_cases hjk : j = k
      · subst hjk
        have hy : y = x := by
          rw [List.getElem?_set_self hk] at hj
          exact (Option.some.inj hj).symm
        subst hy
        have hlt : o + j * 11 + c2 < cur.size := by
          have : j * 11 + 11 ≤ c * 11 := by
            have := Nat.mul_le_mul_right 11 (show j + 1 ≤ c by omega)
            omega
          omega
        have : c2 = 0 ∨ c2 = 1 ∨ c2 = 2 ∨ c2 = 3 ∨ c2 = 4 ∨ c2 = 5 ∨ c2 = 6 ∨ c2 = 7 ∨ c2 = 8 ∨ c2 = 9 ∨ c2 = 10 := by omega
        rw [← Nat.add_assoc]
        rcases this with rfl | rfl | rfl | rfl | rfl | rfl | rfl | rfl | rfl | rfl | rfl <;> (simp only [Array.getElem?_setIfInBounds, Array.size_setIfInBounds, Nat.add_zero] at hlt ⊢; simp [hlt] ; simpa [bnE] using hu)
      · rw [List.getElem?_set_ne (fun e => hjk e.symm)] at hj
        have h7 := h6 j y hj c2 u hu
        rw [Array.getElem?_setIfInBounds_ne (by omega), Array.getElem?_setIfInBounds_ne (by omega), Array.getElem?_setIfInBounds_ne (by omega), Array.getElem?_setIfInBounds_ne (by omega), Array.getElem?_setIfInBounds_ne (by omega), Array.getElem?_setIfInBounds_ne (by omega), Array.getElem?_setIfInBounds_ne (by omega), Array.getElem?_setIfInBounds_ne (by omega), Array.getElem?_setIfInBounds_ne (by omega), Array.getElem?_setIfInBounds_ne (by omega), Array.getElem?_setIfInBounds_ne (by omega)]
        exact h7
    · have b0 : ∀ (V : World) (p : Nat) (v : Value), Below B' V (V.setCell ⟨g, p, none⟩ v) := fun V p v => (Below.refl _ _).setCell (p := ⟨g, p, none⟩) hB v
      exact ((((((((((b0 _ _ _).trans (b0 _ _ _)).trans (b0 _ _ _)).trans (b0 _ _ _)).trans (b0 _ _ _)).trans (b0 _ _ _)).trans (b0 _ _ _)).trans (b0 _ _ _)).trans (b0 _ _ _)).trans (b0 _ _ _)).trans (b0 _ _ _)
end
end Go.Proofs.Ytfmbldjaknjgbaa
namespace Go.Proofs.Ytfmbldjaknjgbaa
open Go.RowKit Pz
set_option linter.unusedVariables false

set_option maxHeartbeats 16000000 in
set_option maxRecDepth 100000 in
/-- two rows of the same entities -/
theorem rsame_yes {w : World} {A1 A2 : Option Addr} {c1 c2 : Nat} {l : List Bn} (R1 : RdB w w.heap.size A1 l) (R2 : RdB w w.heap.size A2 l) (hl : l.length ≤ 140737488351232) :
    Calls Try.prog 15 #[.slice A1 l.length c1, .slice A2 l.length c2] w fun e w' => e = .returned (.bool true) ∧ Below w.heap.size w w' := by
  have AT : Hid (∀ W, Below w.heap.size w W → ∀ j (hj : j < l.length), ∃ g o g2 o2, A1 = some ⟨g, o, none⟩ ∧ A2 = some ⟨g2, o2, none⟩ ∧ (W.cell? ⟨g, o + j * 11, none⟩ = some (.int .i64 l[j].s) ∧ W.cell? ⟨g, o + j * 11 + 1, none⟩ = some (.int .i64 l[j].i) ∧ W.cell? ⟨g, o + j * 11 + 2, none⟩ = some (.int .i64 l[j].g) ∧ W.cell? ⟨g, o + j * 11 + 3, none⟩ = some (.int .i64 l[j].m) ∧ W.cell? ⟨g, o + j * 11 + 4, none⟩ = some (.int .i64 l[j].x) ∧ W.cell? ⟨g, o + j * 11 + 5, none⟩ = some (.int .i64 l[j].y) ∧ W.cell? ⟨g, o + j * 11 + 6, none⟩ = some (.int .i64 l[j].vx) ∧ W.cell? ⟨g, o + j * 11 + 7, none⟩ = some (.int .i64 l[j].vy) ∧ W.cell? ⟨g, o + j * 11 + 8, none⟩ = some (.int .i64 l[j].h) ∧ W.cell? ⟨g, o + j * 11 + 9, none⟩ = some (.int .i64 l[j].p) ∧ W.cell? ⟨g, o + j * 11 + 10, none⟩ = some (.int .i64 l[j].l)) ∧ (W.cell? ⟨g2, o2 + j * 11, none⟩ = some (.int .i64 l[j].s) ∧ W.cell? ⟨g2, o2 + j * 11 + 1, none⟩ = some (.int .i64 l[j].i) ∧ W.cell? ⟨g2, o2 + j * 11 + 2, none⟩ = some (.int .i64 l[j].g) ∧ W.cell? ⟨g2, o2 + j * 11 + 3, none⟩ = some (.int .i64 l[j].m) ∧ W.cell? ⟨g2, o2 + j * 11 + 4, none⟩ = some (.int .i64 l[j].x) ∧ W.cell? ⟨g2, o2 + j * 11 + 5, none⟩ = some (.int .i64 l[j].y) ∧ W.cell? ⟨g2, o2 + j * 11 + 6, none⟩ = some (.int .i64 l[j].vx) ∧ W.cell? ⟨g2, o2 + j * 11 + 7, none⟩ = some (.int .i64 l[j].vy) ∧ W.cell? ⟨g2, o2 + j * 11 + 8, none⟩ = some (.int .i64 l[j].h) ∧ W.cell? ⟨g2, o2 + j * 11 + 9, none⟩ = some (.int .i64 l[j].p) ∧ W.cell? ⟨g2, o2 + j * 11 + 10, none⟩ = some (.int .i64 l[j].l)) ∧
      ∀ V : World, (Op.equalIn 10000 34 (Bn.val l[j]) (Bn.val l[j])).run Try.prog V = .ok true V) := Lib.hid fun W hW j hj => by
    obtain ⟨g, o, e1, _, k1⟩ := (R1.below hW) j _ (List.getElem?_eq_getElem hj)
    obtain ⟨g2, o2, e2, _, k2⟩ := (R2.below hW) j _ (List.getElem?_eq_getElem hj)
    refine ⟨g, o, g2, o2, e1, e2, k1, k2, fun V => ?_⟩
    have := eq_bundle l[j].s l[j].i l[j].g l[j].m l[j].x l[j].y l[j].vx l[j].vy l[j].h l[j].p l[j].l l[j].s l[j].i l[j].g l[j].m l[j].x l[j].y l[j].vx l[j].vy l[j].h l[j].p l[j].l V
    simpa using this
  clear R1 R2
  have hnn : ((l.length : Int) != (l.length : Int)) = false := by simp
  have hn : (l.length : Int) ≤ 140737488351232 := by omega
  go_enter Try.func15, Try.ntmps15
  go_wp2
  go_loopw [5] (fun i wr => ∃ j : Nat, j ≤ l.length ∧ i = .int .i64 j ∧ Hid (Below w.heap.size w wr)) (fun i _ => l.length - (intOf i).toNat)
  case atStart => exact ⟨0, Nat.zero_le _, rfl, Lib.hid (Below.refl _ _)⟩
  case round =>
    obtain ⟨j, hj, rfl, HB⟩ := hrel
    by_cases hjn : j < l.length
    · have t1 : (j : Int) < (l.length : Int) := by omega
      obtain ⟨g, o, g2, o2, rfl, rfl, ⟨h0, h1, h2, h3, h4, h5, h6, h7, h8, h9, h10⟩, ⟨m0, m1, m2, m3, m4, m5, m6, m7, m8, m9, m10⟩, EQ⟩ := AT.out wr HB.out j hjn
      have NX : Hid (∀ m, Below w.heap.size w (wr.drewN m)) := Lib.hid fun m => Below.dn' HB.out m
      clear AT HB
      simp only [Bn.val] at EQ
      generalize l[j].s = y0 at *
      generalize l[j].i = y1 at *
      generalize l[j].g = y2 at *
      generalize l[j].m = y3 at *
      generalize l[j].x = y4 at *
      generalize l[j].y = y5 at *
      generalize l[j].vx = y6 at *
      generalize l[j].vy = y7 at *
      generalize l[j].h = y8 at *
      generalize l[j].p = y9 at *
      generalize l[j].l = y10 at *
      generalize l.length = n at *
      go_wp2
      go_quiet (fail)
      go_wp2
      go_roundw
      case rel => exact ⟨j + 1, by omega, by go_num, Lib.hid (NX.out _)⟩
      case measure => simp [intOf]; omega
    · obtain rfl : j = l.length := by omega
      have t1 : ¬ (l.length : Int) < (l.length : Int) := by omega
      clear AT
      generalize l.length = n at *
      go_wp2
      go_ret
      exact ⟨rfl, HB.out⟩
end Go.Proofs.Ytfmbldjaknjgbaa
namespace Go.Proofs.Ytfmbldjaknjgbaa
open Go.RowKit Pz
set_option linter.unusedVariables false

/-- an element more: its box is new -/
theorem app_x {α : Type} {enc : α → List Value} {T s : Nat} {W : World} {B : Nat} {v : Value} {l : List α} {t : TypeId} {z : Value} {bytes : Nat} (ht : Try.prog.underlying t = some (.slice T)) (hi : (Try.prog.info? T).map (fun i => (i.zero, i.size, i.bytes)) = some (some z, s, bytes)) (hzs : z.cells.size = s) (hs : 0 < s)
    (he : ∀ x, (enc x).length = s) (h1 : ∀ x, ∀ u ∈ enc x, u.oneCell' = true) (h : Rw enc T s W B v l) (hB : B ≤ W.heap.size) (x : α) (hn : l.length + 1 ≤ 1000000) (hby : bytes ≤ 1000) (ty : TypeId) :
    ∃ v' w', (Builtin.append_ #[t, t] ty #[v, .slice (some ⟨W.heap.size, 0, none⟩) 1 1]).run Try.prog (W.alloc (.cells (enc x).toArray T)) = .ok v' w' ∧ Rw enc T s w' B v' (l ++ [x]) ∧ W.grownBy w' v.ownBlock ∧ (∀ g, v'.ownBlock = some g → v.ownBlock = some g ∨ W.heap.size ≤ g) ∧ ∀ g, v.ownBlock = some g → B ≤ g := by
  have hb := bel1 W (.cells (enc x).toArray T)
  have ha := at1 W (.cells (enc x).toArray T)
  have h2 := h.below hb
  obtain ⟨v', w', hr, ho, hg, hf⟩ := h2.app (P := Try.prog) (t := t) (ty := ty) ht hi hzs hs he h1 (Nat.le_trans hB hb.size) [x] ⟨W.heap.size, 0, none⟩ 1 (fun j y hj c u hu => by
    have hj0 : j = 0 := by
      have := (List.getElem?_eq_some_iff.1 hj).1
      simp at this
      exact this
    subst hj0
    have hy := Option.some.inj hj
    subst hy
    rw [Addr.add_mid, Nat.zero_mul, Nat.zero_add, Nat.zero_add]
    exact (Bx.cell ha (by simpa using hu)).1) (by simpa using hn) hby (.inl (by simp))
  exact ⟨v', w', hr, ho, ⟨hg.os, hg.tape, hg.output, Nat.le_trans hb.size hg.size, fun k hk hne => (hg.block k (Nat.lt_of_lt_of_le hk hb.size) hne).trans (hb.block k hk)⟩, fun g e => (hf g e).imp id fun e => Nat.le_trans hb.size e, fun g e => (h.blk e).1⟩
/-- what a world made since B became, but for one's own row -/
theorem below_row {B : Nat} {w W V : World} {row : Option Nat} (h : Below B w W) (hg : W.grownBy V row) (hB : B ≤ W.heap.size) (hr : ∀ g, row = some g → B ≤ g) : Below B w V := h.grown hg hB hr
end Go.Proofs.Ytfmbldjaknjgbaa
