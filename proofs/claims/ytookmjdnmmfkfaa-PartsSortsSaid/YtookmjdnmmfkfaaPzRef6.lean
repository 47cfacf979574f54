/- The document's parts: Find, Same. Written by wip/tools/genpz6.py. -/
import Derived.Test.YtookmjdnmmfkfaaPzRow
namespace Go.Proofs.Ytookmjdnmmfkfaa
open Go.RowKit Pz
set_option linter.unusedVariables false

namespace Pz
/-- where the first one stands that does not come ahead of a name -/
def findAt (l : List Bn) (id : Int × Int × Int) : Nat := (l.takeWhile fun b => before b.id id).length
def sameID (a b : Int × Int × Int) : Bool := (a.1 == b.1) && ((a.2.1 == b.2.1) && (a.2.2 == b.2.2))
def foundAt (l : List Bn) (id : Int × Int × Int) : Bool := match l[findAt l id]? with | some b => sameID b.id id | none => false
theorem findAt_le (l : List Bn) (id : Int × Int × Int) : findAt l id ≤ l.length := by
  unfold findAt
  exact (List.takeWhile_sublist _).length_le
theorem findAt_end : ∀ (l : List Bn) (id : Int × Int × Int) (i : Nat), (∀ j y, j < i → l[j]? = some y → before y.id id = true) → i ≤ l.length → (i = l.length ∨ ∃ y, l[i]? = some y ∧ before y.id id = false) → findAt l id = i
  | [], id, i, _, hi, _ => by
    have : i = 0 := by simpa using hi
    subst this
    rfl
  | x :: r, id, 0, _, _, h => by
    rcases h with h | ⟨y, h1, h2⟩
    · cases h
    · simp only [List.getElem?_cons_zero, Option.some.injEq] at h1
      subst h1
      unfold findAt
      rw [List.takeWhile_cons, h2]
      rfl
  | x :: r, id, i + 1, hb, hi, h => by
    have h0 := hb 0 x (by omega) rfl
    have := findAt_end r id i (fun j y hj hy => hb (j + 1) y (by omega) (by simpa using hy)) (by simpa using hi) (by
      rcases h with h | ⟨y, h1, h2⟩
      · exact .inl (by simpa using h)
      · exact .inr ⟨y, by simpa using h1, h2⟩)
    unfold findAt at this ⊢
    rw [List.takeWhile_cons, h0, if_pos rfl, List.length_cons, this]
end Pz
set_option maxHeartbeats 16000000 in
set_option maxRecDepth 100000 in
theorem rfind_any {w : World} {A : Option Addr} {cap : Nat} {l : List Bn} (R : RdB w w.heap.size A l) (hl : l.length ≤ 140737488351232) (s i g : Int) :
    Calls Try.prog 29 #[.slice A l.length cap, .agg #[.int .i64 s, .int .i64 i, .int .i64 g]] w fun e w' => e = .returned (.tuple #[.int .i64 (findAt l (s, i, g) : Int), .bool (foundAt l (s, i, g))]) ∧ Below w.heap.size w w' := by
  have B1 := bel1 w (.cells #[.int .i64 s, .int .i64 i, .int .i64 g] 23)
  have H1 := at1 w (.cells #[.int .i64 s, .int .i64 i, .int .i64 g] 23)
  have ID : Hid (∀ W, Below (w.alloc (.cells #[.int .i64 s, .int .i64 i, .int .i64 g] 23)).heap.size (w.alloc (.cells #[.int .i64 s, .int .i64 i, .int .i64 g] 23)) W → (W.cell? ⟨w.heap.size, 0, none⟩ = some (.int .i64 s) ∧ W.cell? ⟨w.heap.size, 1, none⟩ = some (.int .i64 i) ∧ W.cell? ⟨w.heap.size, 2, none⟩ = some (.int .i64 g)) ∧ Below w.heap.size w W) := Lib.hid fun W hW => ⟨(Bx.b3 ((hW.block _ (Bx.lt H1)).trans H1)).1, B1.trans (hW.mono B1.size)⟩
  have AT : Hid (∀ W, Below w.heap.size w W → ∀ j (hj : j < l.length), ∃ g o, A = some ⟨g, o, none⟩ ∧ (W.cell? ⟨g, o + j * 11, none⟩ = some (.int .i64 l[j].s) ∧ W.cell? ⟨g, o + j * 11 + 1, none⟩ = some (.int .i64 l[j].i) ∧ W.cell? ⟨g, o + j * 11 + 2, none⟩ = some (.int .i64 l[j].g))) := Lib.hid fun W hW j hj => by
    obtain ⟨g, o, e, _, h0, h1, h2, _⟩ := (R.below hW) j _ (List.getElem?_eq_getElem hj)
    exact ⟨g, o, e, h0, h1, h2⟩
  have FE : Hid (∀ k, (∀ j y, j < k → l[j]? = some y → before y.id (s, i, g) = true) → k ≤ l.length → (k = l.length ∨ ∃ y, l[k]? = some y ∧ before y.id (s, i, g) = false) → findAt l (s, i, g) = k) := Lib.hid fun k => findAt_end l (s, i, g) k
  obtain ⟨V0, hV0⟩ : ∃ V0, V0 = w.alloc (.cells #[.int .i64 s, .int .i64 i, .int .i64 g] 23) := ⟨_, rfl⟩
  have DONE : Hid (∀ k, findAt l (s, i, g) = k → ∀ b : Bool, (∀ hk : k < l.length, b = sameID l[k].id (s, i, g)) → (¬ k < l.length → b = false) → foundAt l (s, i, g) = b) := Lib.hid fun k hk b h1 h2 => by
    unfold foundAt
    rw [hk]
    by_cases h : k < l.length
    · rw [List.getElem?_eq_getElem h, h1 h]
    · rw [List.getElem?_eq_none (by omega), h2 h]
  rw [← hV0] at ID
  clear B1 H1 R
  go_enter Try.func29, Try.ntmps29
  go_upto_region 1 with fail
  rw [← hV0]
  clear hV0
  go_wp2
  go_loopw [6] (fun ix wr => ∃ k : Nat, k ≤ l.length ∧ ix = .int .i64 k ∧ Hid (Below V0.heap.size V0 wr) ∧ Hid (∀ j y, j < k → l[j]? = some y → before y.id (s, i, g) = true)) (fun ix _ => l.length - (intOf ix).toNat)
  case atStart => exact ⟨0, Nat.zero_le _, rfl, Lib.hid (Below.refl _ _), Lib.hid fun j y hj => by omega⟩
  case round =>
    obtain ⟨k, hk, rfl, HB, HI⟩ := hrel
    obtain ⟨⟨d0, d1, d2⟩, HW⟩ := ID.out wr HB.out
    replace HW := Lib.hid HW
    by_cases hkl : k < l.length
    · have t1 : decide ((k : Int) < (l.length : Int)) = true := decide_eq_true (by omega)
      have t1' : (k : Int) < (l.length : Int) := by omega
      obtain ⟨ga, oa, rfl, c0, c1, c2⟩ := AT.out wr HW.out k hkl
      cases hbf : before l[k].id (s, i, g) with
      | true =>
        have BF : Hid (∀ p : Lat grows wr, Calls Try.prog 25 #[.agg #[.int .i64 l[k].s, .int .i64 l[k].i, .int .i64 l[k].g], .agg #[.int .i64 s, .int .i64 i, .int .i64 g]] p.W fun e w' => e = .returned (.bool true) ∧ Below p.W.heap.size p.W w') := Lib.hid fun p => by
          have := before_any l[k].s l[k].i l[k].g s i g p.W
          rw [show before (l[k].s, l[k].i, l[k].g) (s, i, g) = true from hbf] at this
          exact this
        have NX : Hid (∀ j y, j < k + 1 → l[j]? = some y → before y.id (s, i, g) = true) := Lib.hid fun j y hj hy => by
          by_cases e : j = k
          · subst e
            rw [List.getElem?_eq_getElem hkl] at hy
            rw [← Option.some.inj hy]
            exact hbf
          · exact HI.out j y (by omega) hy
        have c0' : ∀ p : Lat grows wr, p.W.cell? ⟨ga, oa + k * 11, none⟩ = some (.int .i64 l[k].s) := fun p => (Below.cell p.h (World.block_lt_of_cell? _ _ c0)).trans c0
        have c1' : ∀ p : Lat grows wr, p.W.cell? ⟨ga, oa + k * 11 + 1, none⟩ = some (.int .i64 l[k].i) := fun p => (Below.cell p.h (World.block_lt_of_cell? _ _ c1)).trans c1
        have c2' : ∀ p : Lat grows wr, p.W.cell? ⟨ga, oa + k * 11 + 2, none⟩ = some (.int .i64 l[k].g) := fun p => (Below.cell p.h (World.block_lt_of_cell? _ _ c2)).trans c2
        have d0' : ∀ p : Lat grows wr, p.W.cell? ⟨w.heap.size, 0, none⟩ = some (.int .i64 s) := fun p => (Below.cell p.h (World.block_lt_of_cell? _ _ d0)).trans d0
        have d1' : ∀ p : Lat grows wr, p.W.cell? ⟨w.heap.size, 1, none⟩ = some (.int .i64 i) := fun p => (Below.cell p.h (World.block_lt_of_cell? _ _ d1)).trans d1
        have d2' : ∀ p : Lat grows wr, p.W.cell? ⟨w.heap.size, 2, none⟩ = some (.int .i64 g) := fun p => (Below.cell p.h (World.block_lt_of_cell? _ _ d2)).trans d2
        clear c0 c1 c2 d0 d1 d2 hbf AT ID FE DONE HI
        generalize l[k].s = x0 at *
        generalize l[k].i = x1 at *
        generalize l[k].g = x2 at *
        generalize l.length = n at *
        go_upto_region 2 with fail
        refine Og.grow 13 (by kernel_rfl) (by kernel_rfl) fun hc hf => ?_
        clear hc hf
        simp only [List.take_succ_cons, List.take_zero, List.drop_succ_cons, List.drop_zero]
        iterate 11 (refine Og.det [] rfl (fun J hJ => ?_); go_simp; refine hJ _ _ ?_; clear hJ J)
        refine Og.det [] rfl (fun J hJ => ?_)
        go_simp
        with_reducible refine ⟨_, fun p => Og.lays (BF.out p), hJ _ _ ?_⟩
        clear hJ J
        refine Og.det [] rfl (fun J hJ => ?_); go_simp; refine hJ _ _ ?_; clear hJ J
        refine Og.fin fun W hW => ?_
        simp only [Og.opened_nil]
        have NB := Lib.hid (HB.out.trans (hW.mono HB.out.size))
        clear hW HB HW BF c0' c1' c2' d0' d1' d2'
        go_wp2
        go_roundw
        case rel => exact ⟨k + 1, by omega, by go_num, NB, NX⟩
        case measure => simp [intOf]; omega
      | false =>
        have BF : Hid (∀ p : Lat grows wr, Calls Try.prog 25 #[.agg #[.int .i64 l[k].s, .int .i64 l[k].i, .int .i64 l[k].g], .agg #[.int .i64 s, .int .i64 i, .int .i64 g]] p.W fun e w' => e = .returned (.bool false) ∧ Below p.W.heap.size p.W w') := Lib.hid fun p => by
          have := before_any l[k].s l[k].i l[k].g s i g p.W
          rw [show before (l[k].s, l[k].i, l[k].g) (s, i, g) = false from hbf] at this
          exact this
        have E1 := FE.out k HI.out hk (.inr ⟨_, List.getElem?_eq_getElem hkl, hbf⟩)
        have E2 := DONE.out k E1 (sameID l[k].id (s, i, g)) (fun _ => rfl) (fun h => absurd hkl h)
        have EQ : ∀ W : World, (Op.equalIn 10000 23 (.agg #[.int .i64 l[k].s, .int .i64 l[k].i, .int .i64 l[k].g]) (.agg #[.int .i64 s, .int .i64 i, .int .i64 g])).run Try.prog W = .ok (sameID l[k].id (s, i, g)) W := fun W => eq_id 9998 l[k].s l[k].i l[k].g s i g W
        have EE := Lib.hid (And.intro E1 E2)
        clear E1 E2
        generalize sameID l[k].id (s, i, g) = r at *
        have c0' : ∀ p : Lat grows wr, p.W.cell? ⟨ga, oa + k * 11, none⟩ = some (.int .i64 l[k].s) := fun p => (Below.cell p.h (World.block_lt_of_cell? _ _ c0)).trans c0
        have c1' : ∀ p : Lat grows wr, p.W.cell? ⟨ga, oa + k * 11 + 1, none⟩ = some (.int .i64 l[k].i) := fun p => (Below.cell p.h (World.block_lt_of_cell? _ _ c1)).trans c1
        have c2' : ∀ p : Lat grows wr, p.W.cell? ⟨ga, oa + k * 11 + 2, none⟩ = some (.int .i64 l[k].g) := fun p => (Below.cell p.h (World.block_lt_of_cell? _ _ c2)).trans c2
        have d0' : ∀ p : Lat grows wr, p.W.cell? ⟨w.heap.size, 0, none⟩ = some (.int .i64 s) := fun p => (Below.cell p.h (World.block_lt_of_cell? _ _ d0)).trans d0
        have d1' : ∀ p : Lat grows wr, p.W.cell? ⟨w.heap.size, 1, none⟩ = some (.int .i64 i) := fun p => (Below.cell p.h (World.block_lt_of_cell? _ _ d1)).trans d1
        have d2' : ∀ p : Lat grows wr, p.W.cell? ⟨w.heap.size, 2, none⟩ = some (.int .i64 g) := fun p => (Below.cell p.h (World.block_lt_of_cell? _ _ d2)).trans d2
        clear c0 c1 c2 d0 d1 d2 hbf AT ID FE DONE HI
        generalize l[k].s = x0 at *
        generalize l[k].i = x1 at *
        generalize l[k].g = x2 at *
        generalize l.length = n at *
        go_upto_region 2 with fail
        refine Og.grow 13 (by kernel_rfl) (by kernel_rfl) fun hc hf => ?_
        clear hc hf
        simp only [List.take_succ_cons, List.take_zero, List.drop_succ_cons, List.drop_zero]
        iterate 11 (refine Og.det [] rfl (fun J hJ => ?_); go_simp; refine hJ _ _ ?_; clear hJ J)
        refine Og.det [] rfl (fun J hJ => ?_)
        go_simp
        with_reducible refine ⟨_, fun p => Og.lays (BF.out p), hJ _ _ ?_⟩
        clear hJ J
        refine Og.det [] rfl (fun J hJ => ?_); go_simp; refine hJ _ _ ?_; clear hJ J
        refine Og.fin fun W hW => ?_
        simp only [Og.opened_nil]
        have NB := Lib.hid (HB.out.trans (hW.mono HB.out.size))
        have NB2 := Lib.hid (HW.out.trans (hW.mono HW.out.size))
        have q0 := c0' ⟨W, hW⟩
        have q1 := c1' ⟨W, hW⟩
        have q2 := c2' ⟨W, hW⟩
        have p0 := d0' ⟨W, hW⟩
        have p1 := d1' ⟨W, hW⟩
        have p2 := d2' ⟨W, hW⟩
        simp only at q0 q1 q2 p0 p1 p2
        clear hW HB HW BF NB c0' c1' c2' d0' d1' d2'
        go_upto_region 4 with fail
        go_quiet (fail)
        rename_i nq
        have FB := Lib.hid (Below.dn' NB2.out nq)
        go_wp2
        go_ret2
        rw [EE.out.1, EE.out.2]
        exact ⟨rfl, FB.out⟩
    · have t1 : decide ((k : Int) < (l.length : Int)) = false := decide_eq_false (by omega)
      have t1' : ¬ (k : Int) < (l.length : Int) := by omega
      have E1 := FE.out k HI.out hk (.inl (by omega))
      have E2 := DONE.out k E1 false (fun h => absurd h hkl) (fun _ => rfl)
      have EE := Lib.hid (And.intro E1 E2)
      clear E1 E2 AT ID FE DONE HI HB
      generalize l.length = n at *
      go_upto_region 2 with fail
      go_quiet (fail)
      go_upto_region 4 with fail
      go_quiet (fail)
      go_wp2
      go_ret2
      rw [EE.out.1, EE.out.2]
      exact ⟨rfl, Below.dn' HW.out _⟩
set_option maxHeartbeats 16000000 in
set_option maxRecDepth 100000 in
/-- two rows of the same entities -/
theorem rsame_yes {w : World} {A1 A2 : Option Addr} {c1 c2 : Nat} {l : List Bn} (R1 : RdB w w.heap.size A1 l) (R2 : RdB w w.heap.size A2 l) (hl : l.length ≤ 140737488351232) :
    Calls Try.prog 30 #[.slice A1 l.length c1, .slice A2 l.length c2] w fun e w' => e = .returned (.bool true) ∧ Below w.heap.size w w' := by
  have AT : Hid (∀ W, Below w.heap.size w W → ∀ j (hj : j < l.length), ∃ g o g2 o2, A1 = some ⟨g, o, none⟩ ∧ A2 = some ⟨g2, o2, none⟩ ∧ (W.cell? ⟨g, o + j * 11, none⟩ = some (.int .i64 l[j].s) ∧ W.cell? ⟨g, o + j * 11 + 1, none⟩ = some (.int .i64 l[j].i) ∧ W.cell? ⟨g, o + j * 11 + 2, none⟩ = some (.int .i64 l[j].g) ∧ W.cell? ⟨g, o + j * 11 + 3, none⟩ = some (.int .i64 l[j].m) ∧ W.cell? ⟨g, o + j * 11 + 4, none⟩ = some (.int .i64 l[j].x) ∧ W.cell? ⟨g, o + j * 11 + 5, none⟩ = some (.int .i64 l[j].y) ∧ W.cell? ⟨g, o + j * 11 + 6, none⟩ = some (.int .i64 l[j].vx) ∧ W.cell? ⟨g, o + j * 11 + 7, none⟩ = some (.int .i64 l[j].vy) ∧ W.cell? ⟨g, o + j * 11 + 8, none⟩ = some (.int .i64 l[j].h) ∧ W.cell? ⟨g, o + j * 11 + 9, none⟩ = some (.int .i64 l[j].p) ∧ W.cell? ⟨g, o + j * 11 + 10, none⟩ = some (.int .i64 l[j].l)) ∧ (W.cell? ⟨g2, o2 + j * 11, none⟩ = some (.int .i64 l[j].s) ∧ W.cell? ⟨g2, o2 + j * 11 + 1, none⟩ = some (.int .i64 l[j].i) ∧ W.cell? ⟨g2, o2 + j * 11 + 2, none⟩ = some (.int .i64 l[j].g) ∧ W.cell? ⟨g2, o2 + j * 11 + 3, none⟩ = some (.int .i64 l[j].m) ∧ W.cell? ⟨g2, o2 + j * 11 + 4, none⟩ = some (.int .i64 l[j].x) ∧ W.cell? ⟨g2, o2 + j * 11 + 5, none⟩ = some (.int .i64 l[j].y) ∧ W.cell? ⟨g2, o2 + j * 11 + 6, none⟩ = some (.int .i64 l[j].vx) ∧ W.cell? ⟨g2, o2 + j * 11 + 7, none⟩ = some (.int .i64 l[j].vy) ∧ W.cell? ⟨g2, o2 + j * 11 + 8, none⟩ = some (.int .i64 l[j].h) ∧ W.cell? ⟨g2, o2 + j * 11 + 9, none⟩ = some (.int .i64 l[j].p) ∧ W.cell? ⟨g2, o2 + j * 11 + 10, none⟩ = some (.int .i64 l[j].l)) ∧
      ∀ V : World, (Op.equalIn 10000 25 (Bn.val l[j]) (Bn.val l[j])).run Try.prog V = .ok true V) := Lib.hid fun W hW j hj => by
    obtain ⟨g, o, e1, _, k1⟩ := (R1.below hW) j _ (List.getElem?_eq_getElem hj)
    obtain ⟨g2, o2, e2, _, k2⟩ := (R2.below hW) j _ (List.getElem?_eq_getElem hj)
    refine ⟨g, o, g2, o2, e1, e2, k1, k2, fun V => ?_⟩
    have := eq_bundle l[j].s l[j].i l[j].g l[j].m l[j].x l[j].y l[j].vx l[j].vy l[j].h l[j].p l[j].l l[j].s l[j].i l[j].g l[j].m l[j].x l[j].y l[j].vx l[j].vy l[j].h l[j].p l[j].l V
    simpa using this
  clear R1 R2
  have hnn : ((l.length : Int) != (l.length : Int)) = false := by simp
  have hn : (l.length : Int) ≤ 140737488351232 := by omega
  go_enter Try.func30, Try.ntmps30
  go_wp2
  go_loopw [5] (fun i wr => ∃ j : Nat, j ≤ l.length ∧ i = .int .i64 j ∧ Hid (Below w.heap.size w wr)) (fun i _ => l.length - (intOf i).toNat)
  case atStart => exact ⟨0, Nat.zero_le _, rfl, Lib.hid (Below.refl _ _)⟩
  case round =>
    obtain ⟨j, hj, rfl, HB⟩ := hrel
    by_cases hjn : j < l.length
    · have t1 : (j : Int) < (l.length : Int) := by omega
      obtain ⟨g, o, g2, o2, rfl, rfl, ⟨h0, h1, h2, h3, h4, h5, h6, h7, h8, h9, h10⟩, ⟨m0, m1, m2, m3, m4, m5, m6, m7, m8, m9, m10⟩, EQ⟩ := AT.out wr HB.out j hjn
      have NX : Hid (∀ m, Below w.heap.size w (wr.drewN m)) := Lib.hid fun m => Below.dn' HB.out m
      clear AT HB
      simp only [Bn.val] at EQ
      generalize l[j].s = y0 at *
      generalize l[j].i = y1 at *
      generalize l[j].g = y2 at *
      generalize l[j].m = y3 at *
      generalize l[j].x = y4 at *
      generalize l[j].y = y5 at *
      generalize l[j].vx = y6 at *
      generalize l[j].vy = y7 at *
      generalize l[j].h = y8 at *
      generalize l[j].p = y9 at *
      generalize l[j].l = y10 at *
      generalize l.length = n at *
      go_wp2
      go_quiet (fail)
      go_wp2
      go_roundw
      case rel => exact ⟨j + 1, by omega, by go_num, Lib.hid (NX.out _)⟩
      case measure => simp [intOf]; omega
    · obtain rfl : j = l.length := by omega
      have t1 : ¬ (l.length : Int) < (l.length : Int) := by omega
      clear AT
      generalize l.length = n at *
      go_wp2
      go_ret
      exact ⟨rfl, HB.out⟩
end Go.Proofs.Ytookmjdnmmfkfaa
