/- The document's codec: may a message be? Written by wip/tools/gencdmay.py. -/
import Derived.Test.YtdhlebmgeiiejaaGreatKCdFits
import Derived.Test.YtdhlebmgeiiejaaGreatKPz
import Derived.Deep.DeepCutAuto
namespace Go.Proofs.YtdhlebmgeiiejaaGreat
open Go.RowKit Pz Cd
set_option linter.unusedVariables false
set_option linter.unusedSimpArgs false

set_option maxHeartbeats 4000000 in
theorem rhast_any (w : World) (k : Int) : Calls Tryz.prog 70 #[.int .i64 k] w fun e w' => e = .returned (.bool (hasT k)) ∧ w = w' := by
  unfold hasT
  obtain ⟨y0, h0⟩ : ∃ y, decide (k ≥ 1) = y := ⟨_, rfl⟩
  obtain ⟨y1, h1⟩ : ∃ y, decide (k ≤ 6) = y := ⟨_, rfl⟩
  obtain ⟨y2, h2⟩ : ∃ y, decide (k = 11) = y := ⟨_, rfl⟩
  have e2 : (k == 11) = y2 := by rw [← h2]; rfl
  obtain ⟨y3, h3⟩ : ∃ y, decide (k = 12) = y := ⟨_, rfl⟩
  have e3 : (k == 12) = y3 := by rw [← h3]; rfl
  rw [h0, h1, h2, h3]
  cases y0 <;> cases y1 <;> cases y2 <;> cases y3 <;>
  (go_enter Tryz.func70, Tryz.ntmps70
   go_wp2
   go_ret
   exact ⟨rfl, rfl⟩)
set_option maxHeartbeats 4000000 in
theorem rhasn_any (w : World) (k : Int) : Calls Tryz.prog 71 #[.int .i64 k] w fun e w' => e = .returned (.bool (hasN k)) ∧ w = w' := by
  unfold hasN
  obtain ⟨y0, h0⟩ : ∃ y, decide (k ≥ 7) = y := ⟨_, rfl⟩
  obtain ⟨y1, h1⟩ : ∃ y, decide (k ≤ 10) = y := ⟨_, rfl⟩
  rw [h0, h1]
  cases y0 <;> cases y1 <;>
  (go_enter Tryz.func71, Tryz.ntmps71
   go_wp2
   go_ret
   exact ⟨rfl, rfl⟩)
set_option maxHeartbeats 4000000 in
theorem rtime_any (w : World) (b : Bool) (n : Int) : Calls Tryz.prog 99 #[.bool b, .int .i64 n] w fun e w' => e = .returned (.bool (timeB b n)) ∧ w = w' := by
  unfold timeB
  obtain ⟨y0, h0⟩ : ∃ y, decide (n ≥ 1) = y := ⟨_, rfl⟩
  obtain ⟨y1, h1⟩ : ∃ y, decide (n ≤ 1099511627776) = y := ⟨_, rfl⟩
  obtain ⟨y2, h2⟩ : ∃ y, decide (n = 0) = y := ⟨_, rfl⟩
  have e2 : (n == 0) = y2 := by rw [← h2]; rfl
  rw [h0, h1, h2]
  cases b <;> cases y0 <;> cases y1 <;> cases y2 <;>
  (go_enter Tryz.func99, Tryz.ntmps99
   go_wp2
   go_ret
   exact ⟨rfl, rfl⟩)
namespace Cd
def bad1 (k t n : Int) : Bool := decide (k < 1) || (decide (k > 12) || (!timeB (hasT k) t || !timeB (hasN k) n))
def bad2 (k : Int) (lc lb li : Nat) : Bool := (decide ((lc : Int) > 0) && (k != 1)) || ((decide ((lb : Int) > 0) && ((k != 7) && (k != 12))) || (decide ((li : Int) > 0) && (k != 4)))
def bad3 (k : Int) (lc lb li : Nat) : Bool := decide ((lc : Int) > 64) || (decide ((lb : Int) > 1024) || (decide ((li : Int) > 1024) || ((k == 7) && ((lb : Int) != 1))))
theorem may_bad (m : Mn) : mayM m = (!bad1 m.k m.t m.n && (!bad2 m.k m.c.length m.b.length m.i.length && (!bad3 m.k m.c.length m.b.length m.i.length && (m.c.all mayCmd && (m.b.all may && m.i.all okID))))) := by
  have e0 : ∀ {α : Type} (l : List α), l.isEmpty = !decide ((l.length : Int) > 0) := fun l => by cases l <;> simp <;> omega
  have n0 : ∀ a b : Int, (a != b) = !decide (a = b) := fun a b => rfl
  have n1 : ∀ a b : Int, (a == b) = decide (a = b) := fun a b => rfl
  have l1 : ∀ (n : Nat) (c : Int), decide ((n : Int) ≤ c) = !decide ((n : Int) > c) := fun n c => by rw [← decide_not]; exact decide_eq_decide.2 (by omega)
  have i1 : decide (1 ≤ m.k) = !decide (m.k < 1) := by rw [← decide_not]; exact decide_eq_decide.2 (by omega)
  have i2 : decide (m.k ≤ 12) = !decide (m.k > 12) := by rw [← decide_not]; exact decide_eq_decide.2 (by omega)
  have u1 : decide (m.b.length = 1) = decide ((m.b.length : Int) = 1) := decide_eq_decide.2 (by omega)
  have p1 : ∀ x1 x2 x3 x4 : Bool, (((!x1 && !x2) && x3) && x4) = !(x1 || (x2 || (!x3 || !x4))) := by decide
  have p2 : ∀ x5 x6 x7 x8 x9 x10 x11 : Bool, ((!x5 || x8) && ((!x6 || (x9 || x10)) && (!x7 || x11))) = !((x5 && !x8) || ((x6 && (!x9 && !x10)) || (x7 && !x11))) := by decide
  have p3 : ∀ x9 x12 x13 x14 x15 x16 x17 x18 : Bool, (((!x12 && x16) && ((!x13 && x17) && (!x14 && x18))) && (!x9 || x15)) = (!(x12 || (x13 || (x14 || (x9 && !x15)))) && (x16 && (x17 && x18))) := by decide
  have k1 : m.c.all kC.ok = m.c.all mayCmd := rfl
  have k2 : m.b.all kB.ok = m.b.all may := rfl
  have k3 : m.i.all kID.ok = m.i.all okID := rfl
  unfold mayM bad1 bad2 bad3 Kind.okL
  rw [e0 m.c, e0 m.b, e0 m.i, l1 m.c.length, l1 m.b.length, l1 m.i.length, i1, i2, u1, k1, k2, k3, p1, p2, p3, Bool.and_assoc]
  rfl
theorem all_take {α : Type} {p : α → Bool} {l : List α} {j : Nat} (h : (l.take j).all p = true) (hj : j < l.length) (hx : p l[j] = true) : (l.take (j + 1)).all p = true := by
  rw [List.take_succ_eq_append_getElem hj, List.all_append, h]
  simpa using hx
theorem all_not {α : Type} {p : α → Bool} {l : List α} {j : Nat} (hj : j < l.length) (hx : p l[j] = false) : l.all p = false := by
  cases ha : l.all p with
  | false => rfl
  | true => rw [List.all_eq_true.1 ha _ (List.getElem_mem hj)] at hx; cases hx
end Cd
set_option maxHeartbeats 32000000 in
set_option maxRecDepth 100000 in
theorem rmay_msg {m : Mn} {A1 A2 A3 : Option Addr} {c1 c2 c3 : Nat} {w : World} (h : MsgAt m A1 A2 A3 w) (HFc : ∀ x ∈ m.c, Fit x.b.m) (HFb : ∀ x ∈ m.b, Fit x.m) : Calls Tryz.prog 69 #[msgV m A1 c1 A2 c2 A3 c3] w fun e w' => e = .returned (.bool (mayM m)) ∧ Below w.heap.size w w' := by
  have MB := may_bad m
  have hc := Lib.hid h.c
  have hb := Lib.hid h.b
  have hi := Lib.hid h.i
  have z1 : (m.c.length : Int) ≤ 140737488351232 := by have := h.lc; omega
  have z2 : (m.b.length : Int) ≤ 140737488351232 := by have := h.lb; omega
  have z3 : (m.i.length : Int) ≤ 140737488351232 := by have := h.li; omega
  clear h
  replace HFc := Lib.hid HFc
  replace HFb := Lib.hid HFb
  generalize mayM m = RES at *
  obtain ⟨k, t, n, lc, lb, li⟩ := m
  simp only [msgV] at *
  have ATC : Hid (∀ W, Below w.heap.size w W → ∀ j (hj : j < lc.length), ∃ ga oa, A1 = some ⟨ga, oa, none⟩ ∧ (W.cell? ⟨ga, oa + j * 16, none⟩ = some (.int .i64 lc[j].k) ∧ W.cell? ⟨ga, oa + j * 16 + 1, none⟩ = some (.int .i64 lc[j].s) ∧ W.cell? ⟨ga, oa + j * 16 + 2, none⟩ = some (.int .i64 lc[j].i) ∧ W.cell? ⟨ga, oa + j * 16 + 3, none⟩ = some (.int .i64 lc[j].g) ∧ W.cell? ⟨ga, oa + j * 16 + 4, none⟩ = some (.int .i64 lc[j].b.s) ∧ W.cell? ⟨ga, oa + j * 16 + 5, none⟩ = some (.int .i64 lc[j].b.i) ∧ W.cell? ⟨ga, oa + j * 16 + 6, none⟩ = some (.int .i64 lc[j].b.g) ∧ W.cell? ⟨ga, oa + j * 16 + 7, none⟩ = some (.int .i64 lc[j].b.m) ∧ W.cell? ⟨ga, oa + j * 16 + 8, none⟩ = some (.int .i64 lc[j].b.x) ∧ W.cell? ⟨ga, oa + j * 16 + 9, none⟩ = some (.int .i64 lc[j].b.y) ∧ W.cell? ⟨ga, oa + j * 16 + 10, none⟩ = some (.int .i64 lc[j].b.vx) ∧ W.cell? ⟨ga, oa + j * 16 + 11, none⟩ = some (.int .i64 lc[j].b.vy) ∧ W.cell? ⟨ga, oa + j * 16 + 12, none⟩ = some (.int .i64 lc[j].b.h) ∧ W.cell? ⟨ga, oa + j * 16 + 13, none⟩ = some (.int .i64 lc[j].b.p) ∧ W.cell? ⟨ga, oa + j * 16 + 14, none⟩ = some (.int .i64 lc[j].b.l) ∧ W.cell? ⟨ga, oa + j * 16 + 15, none⟩ = some (.int .i64 lc[j].m))) := Lib.hid fun W hW j hj => by
    obtain ⟨ga, oa, e, _, q1⟩ := (hc.out.below hW) j _ (List.getElem?_eq_getElem hj)
    exact ⟨ga, oa, e, q1⟩
  have ATB : Hid (∀ W, Below w.heap.size w W → ∀ j (hj : j < lb.length), ∃ ga oa, A2 = some ⟨ga, oa, none⟩ ∧ (W.cell? ⟨ga, oa + j * 11, none⟩ = some (.int .i64 lb[j].s) ∧ W.cell? ⟨ga, oa + j * 11 + 1, none⟩ = some (.int .i64 lb[j].i) ∧ W.cell? ⟨ga, oa + j * 11 + 2, none⟩ = some (.int .i64 lb[j].g) ∧ W.cell? ⟨ga, oa + j * 11 + 3, none⟩ = some (.int .i64 lb[j].m) ∧ W.cell? ⟨ga, oa + j * 11 + 4, none⟩ = some (.int .i64 lb[j].x) ∧ W.cell? ⟨ga, oa + j * 11 + 5, none⟩ = some (.int .i64 lb[j].y) ∧ W.cell? ⟨ga, oa + j * 11 + 6, none⟩ = some (.int .i64 lb[j].vx) ∧ W.cell? ⟨ga, oa + j * 11 + 7, none⟩ = some (.int .i64 lb[j].vy) ∧ W.cell? ⟨ga, oa + j * 11 + 8, none⟩ = some (.int .i64 lb[j].h) ∧ W.cell? ⟨ga, oa + j * 11 + 9, none⟩ = some (.int .i64 lb[j].p) ∧ W.cell? ⟨ga, oa + j * 11 + 10, none⟩ = some (.int .i64 lb[j].l))) := Lib.hid fun W hW j hj => by
    obtain ⟨ga, oa, e, _, q1⟩ := (hb.out.below hW) j _ (List.getElem?_eq_getElem hj)
    exact ⟨ga, oa, e, q1⟩
  have ATI : Hid (∀ W, Below w.heap.size w W → ∀ j (hj : j < li.length), ∃ ga oa, A3 = some ⟨ga, oa, none⟩ ∧ (W.cell? ⟨ga, oa + j * 3, none⟩ = some (.int .i64 li[j].1) ∧ W.cell? ⟨ga, oa + j * 3 + 1, none⟩ = some (.int .i64 li[j].2.1) ∧ W.cell? ⟨ga, oa + j * 3 + 2, none⟩ = some (.int .i64 li[j].2.2))) := Lib.hid fun W hW j hj => by
    obtain ⟨ga, oa, e, _, q1⟩ := (hi.out.below hW) j _ (List.getElem?_eq_getElem hj)
    exact ⟨ga, oa, e, q1⟩
  have CC : Hid (∀ W j (hj : j < lc.length), Calls Tryz.prog 52 #[lc[j].val] W fun e w' => e = .returned (.bool (mayCmd lc[j])) ∧ Below W.heap.size W w') := Lib.hid fun W j hj => maycmd_any _ (HFc.out _ (List.getElem_mem hj)) W
  have CB : Hid (∀ W j (hj : j < lb.length), Calls Tryz.prog 48 #[lb[j].val] W fun e w' => e = .returned (.bool (may lb[j])) ∧ Below W.heap.size W w') := Lib.hid fun W j hj => may_any _ (HFb.out _ (List.getElem_mem hj)) W
  have CI : Hid (∀ W j (hj : j < li.length), Calls Tryz.prog 40 #[.agg #[.int .i64 li[j].1, .int .i64 li[j].2.1, .int .i64 li[j].2.2]] W fun e w' => e = .returned (.bool (okID li[j])) ∧ Below W.heap.size W w') := Lib.hid fun W j hj => rightid_any _ _ _ W
  clear hc hb hi HFc HFb
  have HT := Lib.hid fun W => rhast_any W k
  have HN := Lib.hid fun W => rhasn_any W k
  have TT := Lib.hid fun W => rtime_any W (hasT k) t
  have TN := Lib.hid fun W => rtime_any W (hasN k) n
  have B1 : bad1 k t n = (decide (k < 1) || (decide (k > 12) || (!timeB (hasT k) t || !timeB (hasN k) n))) := rfl
  generalize bad1 k t n = b1 at *
  generalize timeB (hasT k) t = rt at *
  generalize timeB (hasN k) n = rn at *
  generalize hasT k = ht at *
  generalize hasN k = hn at *
  obtain ⟨y1, e1⟩ : ∃ y, decide (k < 1) = y := ⟨_, rfl⟩
  obtain ⟨y2, e2⟩ : ∃ y, decide (k > 12) = y := ⟨_, rfl⟩
  rw [e1, e2] at B1
  have T1 := Lib.hid (at1 w (.cells #[.int .i64 k, .int .i64 t, .int .i64 n, .slice A1 lc.length c1, .slice A2 lb.length c2, .slice A3 li.length c3] MT))
  have HB := Lib.hid (bel1 w (.cells #[.int .i64 k, .int .i64 t, .int .i64 n, .slice A1 lc.length c1, .slice A2 lb.length c2, .slice A3 li.length c3] MT))
  have HM : Hid (RES = (!b1 && (!bad2 k lc.length lb.length li.length && (!bad3 k lc.length lb.length li.length && (lc.all mayCmd && (lb.all may && li.all okID)))))) := Lib.hid MB
  clear MB
  have D2 : Hid (bad2 k lc.length lb.length li.length = ((decide ((lc.length : Int) > 0) && (k != 1)) || ((decide ((lb.length : Int) > 0) && ((k != 7) && (k != 12))) || (decide ((li.length : Int) > 0) && (k != 4))))) := Lib.hid rfl
  have D3 : Hid (bad3 k lc.length lb.length li.length = (decide ((lc.length : Int) > 64) || (decide ((lb.length : Int) > 1024) || (decide ((li.length : Int) > 1024) || ((k == 7) && ((lb.length : Int) != 1)))))) := Lib.hid rfl
  generalize bad2 k lc.length lb.length li.length = b2 at *
  generalize bad3 k lc.length lb.length li.length = b3 at *
  go_enter Tryz.func69, Tryz.ntmps69
  go_upto_region 1 with fail
  generalize w.alloc (.cells #[.int .i64 k, .int .i64 t, .int .i64 n, .slice A1 lc.length c1, .slice A2 lb.length c2, .slice A3 li.length c3] MT) = w1 at *
  go_cut [31] (fun v wx => v = .bool b1 ∧ Below w1.heap.size w1 wx)
  case first =>
   as_aux_lemma =>
    obtain ⟨⟨k0, k1, k2, k3, k4, k5⟩, _⟩ := Bx.b6 T1.out
    have NX : Hid (∀ m, Below w1.heap.size w1 (w1.drewN m)) := Lib.hid fun m => Below.dn' (Below.refl _ _) m
    clear T1 HB ATC ATB ATI CC CB CI HM D2 D3
    cases y1 with
    | true =>
      go_quiet (first | (go_at_call 70; with_reducible exact quiet_same (HT.out _)) | (go_at_call 71; with_reducible exact quiet_same (HN.out _)) | (go_at_call 99; with_reducible exact quiet_same (TT.out _)) | (go_at_call 99; with_reducible exact quiet_same (TN.out _)))
      go_wp2
      go_meet
      exact ⟨by rw [B1]; rfl, NX.out _⟩
    | false =>
      cases y2 with
      | true =>
        go_quiet (first | (go_at_call 70; with_reducible exact quiet_same (HT.out _)) | (go_at_call 71; with_reducible exact quiet_same (HN.out _)) | (go_at_call 99; with_reducible exact quiet_same (TT.out _)) | (go_at_call 99; with_reducible exact quiet_same (TN.out _)))
        go_wp2
        go_meet
        exact ⟨by rw [B1]; rfl, NX.out _⟩
      | false =>
        cases rt with
        | false =>
          go_quiet (first | (go_at_call 70; with_reducible exact quiet_same (HT.out _)) | (go_at_call 71; with_reducible exact quiet_same (HN.out _)) | (go_at_call 99; with_reducible exact quiet_same (TT.out _)) | (go_at_call 99; with_reducible exact quiet_same (TN.out _)))
          go_wp2
          go_meet
          exact ⟨by rw [B1]; rfl, NX.out _⟩
        | true =>
          cases rn with
          | false =>
            go_quiet (first | (go_at_call 70; with_reducible exact quiet_same (HT.out _)) | (go_at_call 71; with_reducible exact quiet_same (HN.out _)) | (go_at_call 99; with_reducible exact quiet_same (TT.out _)) | (go_at_call 99; with_reducible exact quiet_same (TN.out _)))
            go_wp2
            go_meet
            exact ⟨by rw [B1]; rfl, NX.out _⟩
          | true =>
            go_quiet (first | (go_at_call 70; with_reducible exact quiet_same (HT.out _)) | (go_at_call 71; with_reducible exact quiet_same (HN.out _)) | (go_at_call 99; with_reducible exact quiet_same (TT.out _)) | (go_at_call 99; with_reducible exact quiet_same (TN.out _)))
            go_wp2
            go_meet
            exact ⟨by rw [B1]; rfl, NX.out _⟩
  generalize wc = V1 at *
  obtain ⟨hv, hcut⟩ := hcut
  subst hv
  replace T1 := Lib.hid ((hcut.block _ (lt_of_row T1.out)).trans T1.out)
  replace HB := Lib.hid (HB.out.trans (hcut.mono HB.out.size))
  clear hcut B1 HT HN TT TN e1 e2
  obtain ⟨⟨k0, k1, k2, k3, k4, k5⟩, _⟩ := Bx.b6 T1.out
  cases b1 with
  | true =>
    clear T1 ATC ATB ATI CC CB CI D2 D3 z1 z2 z3
    go_wp2
    go_ret
    rw [HM.out]
    exact ⟨rfl, HB.out⟩
  | false =>
    go_upto_region 3 with fail
    obtain ⟨a1, f1n⟩ : ∃ y, decide (0 < lc.length) = y := ⟨_, rfl⟩
    have f1 : decide ((lc.length : Int) > 0) = a1 := by rw [← f1n]; exact decide_eq_decide.2 (by omega)
    obtain ⟨a2, f2n⟩ : ∃ y, decide (0 < lb.length) = y := ⟨_, rfl⟩
    have f2 : decide ((lb.length : Int) > 0) = a2 := by rw [← f2n]; exact decide_eq_decide.2 (by omega)
    obtain ⟨a3, f3n⟩ : ∃ y, decide (0 < li.length) = y := ⟨_, rfl⟩
    have f3 : decide ((li.length : Int) > 0) = a3 := by rw [← f3n]; exact decide_eq_decide.2 (by omega)
    obtain ⟨q1, g1⟩ : ∃ y, (k != 1) = y := ⟨_, rfl⟩
    obtain ⟨q7, g7⟩ : ∃ y, (k != 7) = y := ⟨_, rfl⟩
    obtain ⟨q12, g12⟩ : ∃ y, (k != 12) = y := ⟨_, rfl⟩
    obtain ⟨q4, g4⟩ : ∃ y, (k != 4) = y := ⟨_, rfl⟩
    have D2' : b2 = ((a1 && q1) || ((a2 && (q7 && q12)) || (a3 && q4))) := by rw [← f1, ← f2, ← f3, ← g1, ← g7, ← g12, ← g4]; exact D2.out
    go_cut [67] (fun v wx => v = .bool b2 ∧ wx = V1)
    case first =>
     as_aux_lemma =>
      clear T1 HB ATC ATB ATI CC CB CI HM D2 D3 z1 z2 z3
      cases a1 with
      | false =>
        cases a2 with
        | false =>
          cases a3 with
          | false =>
            go_wp2
            go_meet
            exact ⟨by rw [D2']; rfl, rfl⟩
          | true =>
            cases q4 with
            | false =>
              go_wp2
              go_meet
              exact ⟨by rw [D2']; rfl, rfl⟩
            | true =>
              go_wp2
              go_meet
              exact ⟨by rw [D2']; rfl, rfl⟩
        | true =>
          cases q7 with
          | false =>
            cases a3 with
            | false =>
              go_wp2
              go_meet
              exact ⟨by rw [D2']; rfl, rfl⟩
            | true =>
              cases q4 with
              | false =>
                go_wp2
                go_meet
                exact ⟨by rw [D2']; rfl, rfl⟩
              | true =>
                go_wp2
                go_meet
                exact ⟨by rw [D2']; rfl, rfl⟩
          | true =>
            cases q12 with
            | false =>
              cases a3 with
              | false =>
                go_wp2
                go_meet
                exact ⟨by rw [D2']; rfl, rfl⟩
              | true =>
                cases q4 with
                | false =>
                  go_wp2
                  go_meet
                  exact ⟨by rw [D2']; rfl, rfl⟩
                | true =>
                  go_wp2
                  go_meet
                  exact ⟨by rw [D2']; rfl, rfl⟩
            | true =>
              go_wp2
              go_meet
              exact ⟨by rw [D2']; rfl, rfl⟩
      | true =>
        cases q1 with
        | false =>
          cases a2 with
          | false =>
            cases a3 with
            | false =>
              go_wp2
              go_meet
              exact ⟨by rw [D2']; rfl, rfl⟩
            | true =>
              cases q4 with
              | false =>
                go_wp2
                go_meet
                exact ⟨by rw [D2']; rfl, rfl⟩
              | true =>
                go_wp2
                go_meet
                exact ⟨by rw [D2']; rfl, rfl⟩
          | true =>
            cases q7 with
            | false =>
              cases a3 with
              | false =>
                go_wp2
                go_meet
                exact ⟨by rw [D2']; rfl, rfl⟩
              | true =>
                cases q4 with
                | false =>
                  go_wp2
                  go_meet
                  exact ⟨by rw [D2']; rfl, rfl⟩
                | true =>
                  go_wp2
                  go_meet
                  exact ⟨by rw [D2']; rfl, rfl⟩
            | true =>
              cases q12 with
              | false =>
                cases a3 with
                | false =>
                  go_wp2
                  go_meet
                  exact ⟨by rw [D2']; rfl, rfl⟩
                | true =>
                  cases q4 with
                  | false =>
                    go_wp2
                    go_meet
                    exact ⟨by rw [D2']; rfl, rfl⟩
                  | true =>
                    go_wp2
                    go_meet
                    exact ⟨by rw [D2']; rfl, rfl⟩
              | true =>
                go_wp2
                go_meet
                exact ⟨by rw [D2']; rfl, rfl⟩
        | true =>
          go_wp2
          go_meet
          exact ⟨by rw [D2']; rfl, rfl⟩
    obtain ⟨hv, hw⟩ := hcut
    subst hv hw
    generalize wc = V1 at *
    clear D2 D2' f1 f2 f3 f1n f2n f3n g1 g7 g12 g4
    cases b2 with
    | true =>
      clear T1 ATC ATB ATI CC CB CI D3 z1 z2 z3
      go_wp2
      go_ret
      rw [HM.out]
      exact ⟨rfl, HB.out⟩
    | false =>
      go_upto_region 5 with fail
      obtain ⟨a1, f1n⟩ : ∃ y, decide (64 < lc.length) = y := ⟨_, rfl⟩
      have f1 : decide ((lc.length : Int) > 64) = a1 := by rw [← f1n]; exact decide_eq_decide.2 (by omega)
      obtain ⟨a2, f2n⟩ : ∃ y, decide (1024 < lb.length) = y := ⟨_, rfl⟩
      have f2 : decide ((lb.length : Int) > 1024) = a2 := by rw [← f2n]; exact decide_eq_decide.2 (by omega)
      obtain ⟨a3, f3n⟩ : ∃ y, decide (1024 < li.length) = y := ⟨_, rfl⟩
      have f3 : decide ((li.length : Int) > 1024) = a3 := by rw [← f3n]; exact decide_eq_decide.2 (by omega)
      obtain ⟨q7, g7⟩ : ∃ y, (k == 7) = y := ⟨_, rfl⟩
      obtain ⟨q1, g1n⟩ : ∃ y, (lb.length != 1) = y := ⟨_, rfl⟩
      have g1 : ((lb.length : Int) != 1) = q1 := by rw [← g1n]; show (!decide ((lb.length : Int) = 1)) = (!decide (lb.length = 1)); rw [show decide ((lb.length : Int) = 1) = decide (lb.length = 1) from decide_eq_decide.2 (by omega)]
      have D2' : b3 = (a1 || (a2 || (a3 || (q7 && q1)))) := by rw [← f1, ← f2, ← f3, ← g1, ← g7]; exact D3.out
      go_cut [94] (fun v wx => v = .bool b3 ∧ wx = V1)
      case first =>
       as_aux_lemma =>
        clear T1 HB ATC ATB ATI CC CB CI HM D3 z1 z2 z3
        cases a1 with
        | true =>
          go_wp2
          go_meet
          exact ⟨by rw [D2']; rfl, rfl⟩
        | false =>
          cases a2 with
          | true =>
            go_wp2
            go_meet
            exact ⟨by rw [D2']; rfl, rfl⟩
          | false =>
            cases a3 with
            | true =>
              go_wp2
              go_meet
              exact ⟨by rw [D2']; rfl, rfl⟩
            | false =>
              cases q7 with
              | false =>
                go_wp2
                go_meet
                exact ⟨by rw [D2']; rfl, rfl⟩
              | true =>
                cases q1 with
                | false =>
                  go_wp2
                  go_meet
                  exact ⟨by rw [D2']; rfl, rfl⟩
                | true =>
                  go_wp2
                  go_meet
                  exact ⟨by rw [D2']; rfl, rfl⟩
      obtain ⟨hv, hw⟩ := hcut
      subst hv hw
      generalize wc = V2 at *
      clear D3 D2' f1 f2 f3 f1n f2n f3n g1 g1n g7
      cases b3 with
      | true =>
        clear T1 ATC ATB ATI CC CB CI z1 z2 z3
        go_wp2
        go_ret
        rw [HM.out]
        exact ⟨rfl, HB.out⟩
      | false =>
        go_wp2
        go_loopw [3] (fun ix wr => ∃ j : Nat, j ≤ lc.length ∧ ix = .int .i64 j ∧ Hid ((lc.take j).all mayCmd = true) ∧ Hid (Below w.heap.size w wr) ∧ Hid (wr.heap[w.heap.size]? = some (.cells #[.int .i64 k, .int .i64 t, .int .i64 n, .slice A1 lc.length c1, .slice A2 lb.length c2, .slice A3 li.length c3] MT (0, 0)))) (fun ix _ => lc.length - (intOf ix).toNat)
        case atStart => exact ⟨0, Nat.zero_le _, rfl, Lib.hid rfl, HB, T1⟩
        case round =>
          clear k0 k1 k2 k3 k4 k5 T1 HB
          obtain ⟨j, hj, rfl, HA, HB, T1⟩ := hrel
          obtain ⟨⟨k0, k1, k2, k3, k4, k5⟩, _⟩ := Bx.b6 T1.out
          by_cases hjn : j < lc.length
          · have t1 : (j : Int) < (lc.length : Int) := by omega
            obtain ⟨ga, oa, rfl, d0, d1, d2, d3, d4, d5, d6, d7, d8, d9, d10, d11, d12, d13, d14, d15⟩ := ATC.out wr HB.out j hjn
            have CP := Lib.hid fun W => CC.out W j hjn
            have NO : Hid (mayCmd lc[j] = false → RES = false) := Lib.hid fun hx => by rw [HM.out, all_not hjn hx]; simp
            have YES : Hid (mayCmd lc[j] = true → (lc.take (j + 1)).all mayCmd = true) := Lib.hid fun hx => all_take HA.out hjn hx
            clear ATC ATB ATI CC CB CI HM HA
            generalize mayCmd lc[j] = r at *
            generalize hx : lc[j] = x at *
            clear hx
            obtain ⟨xk, xs, xi, xg, ⟨xbs, xbi, xbg, xbm, xbx, xby, xbvx, xbvy, xbh, xbp, xbl⟩, xm⟩ := x
            simp only [Cn.val] at *
            go_wp2_with fail
            refine (CP.out _).mono ?_
            rintro e w3 ⟨rfl, hb⟩
            replace HB := Lib.hid (HB.out.trans (hb.mono HB.out.size))
            replace T1 := Lib.hid ((hb.block _ (lt_of_row T1.out)).trans T1.out)
            clear hb CP k0 k1 k2 k3 k4 k5 d0 d1 d2 d3 d4 d5 d6 d7 d8 d9 d10 d11 d12 d13 d14 d15
            cases r with
            | false =>
              go_wp2
              go_ret
              rw [NO.out (by trivial)]
              exact ⟨rfl, HB.out⟩
            | true =>
              go_wp2
              go_roundw
              case rel => exact ⟨j + 1, by omega, by go_num, Lib.hid (YES.out (by trivial)), HB, T1⟩
              case measure => simp [intOf]; omega
          · obtain rfl : j = lc.length := by omega
            have t7 : ¬ (lc.length : Int) < (lc.length : Int) := by omega
            have DA : lc.all mayCmd = true := by have := HA.out; rwa [List.take_length] at this
            replace DA := Lib.hid DA
            clear HA hj hjn
            go_wp2
            go_loopw [4] (fun ix wr => ∃ j : Nat, j ≤ lb.length ∧ ix = .int .i64 j ∧ Hid ((lb.take j).all may = true) ∧ Hid (Below w.heap.size w wr) ∧ Hid (wr.heap[w.heap.size]? = some (.cells #[.int .i64 k, .int .i64 t, .int .i64 n, .slice A1 lc.length c1, .slice A2 lb.length c2, .slice A3 li.length c3] MT (0, 0)))) (fun ix _ => lb.length - (intOf ix).toNat)
            case atStart => exact ⟨0, Nat.zero_le _, rfl, Lib.hid rfl, HB, T1⟩
            case round =>
              clear k0 k1 k2 k3 k4 k5 T1 HB
              obtain ⟨j, hj, rfl, HA, HB, T1⟩ := hrel
              obtain ⟨⟨k0, k1, k2, k3, k4, k5⟩, _⟩ := Bx.b6 T1.out
              by_cases hjn : j < lb.length
              · have t1 : (j : Int) < (lb.length : Int) := by omega
                obtain ⟨ga, oa, rfl, d0, d1, d2, d3, d4, d5, d6, d7, d8, d9, d10⟩ := ATB.out wr HB.out j hjn
                have CP := Lib.hid fun W => CB.out W j hjn
                have NO : Hid (may lb[j] = false → RES = false) := Lib.hid fun hx => by rw [HM.out, all_not hjn hx]; simp
                have YES : Hid (may lb[j] = true → (lb.take (j + 1)).all may = true) := Lib.hid fun hx => all_take HA.out hjn hx
                clear ATC ATB ATI CC CB CI HM HA
                generalize may lb[j] = r at *
                generalize hx : lb[j] = x at *
                clear hx
                obtain ⟨xs, xi, xg, xm, xx, xy, xvx, xvy, xh, xp, xl⟩ := x
                simp only [Bn.val] at *
                go_wp2_with fail
                refine (CP.out _).mono ?_
                rintro e w3 ⟨rfl, hb⟩
                replace HB := Lib.hid (HB.out.trans (hb.mono HB.out.size))
                replace T1 := Lib.hid ((hb.block _ (lt_of_row T1.out)).trans T1.out)
                clear hb CP k0 k1 k2 k3 k4 k5 d0 d1 d2 d3 d4 d5 d6 d7 d8 d9 d10
                cases r with
                | false =>
                  go_wp2
                  go_ret
                  rw [NO.out (by trivial)]
                  exact ⟨rfl, HB.out⟩
                | true =>
                  go_wp2
                  go_roundw
                  case rel => exact ⟨j + 1, by omega, by go_num, Lib.hid (YES.out (by trivial)), HB, T1⟩
                  case measure => simp [intOf]; omega
              · obtain rfl : j = lb.length := by omega
                have t8 : ¬ (lb.length : Int) < (lb.length : Int) := by omega
                have DB : lb.all may = true := by have := HA.out; rwa [List.take_length] at this
                replace DB := Lib.hid DB
                clear HA hj hjn
                go_wp2
                go_loopw [5] (fun ix wr => ∃ j : Nat, j ≤ li.length ∧ ix = .int .i64 j ∧ Hid ((li.take j).all okID = true) ∧ Hid (Below w.heap.size w wr) ∧ Hid (wr.heap[w.heap.size]? = some (.cells #[.int .i64 k, .int .i64 t, .int .i64 n, .slice A1 lc.length c1, .slice A2 lb.length c2, .slice A3 li.length c3] MT (0, 0)))) (fun ix _ => li.length - (intOf ix).toNat)
                case atStart => exact ⟨0, Nat.zero_le _, rfl, Lib.hid rfl, HB, T1⟩
                case round =>
                  clear k0 k1 k2 k3 k4 k5 T1 HB
                  obtain ⟨j, hj, rfl, HA, HB, T1⟩ := hrel
                  obtain ⟨⟨k0, k1, k2, k3, k4, k5⟩, _⟩ := Bx.b6 T1.out
                  by_cases hjn : j < li.length
                  · have t1 : (j : Int) < (li.length : Int) := by omega
                    obtain ⟨ga, oa, rfl, d0, d1, d2⟩ := ATI.out wr HB.out j hjn
                    have CP := Lib.hid fun W => CI.out W j hjn
                    have NO : Hid (okID li[j] = false → RES = false) := Lib.hid fun hx => by rw [HM.out, all_not hjn hx]; simp
                    have YES : Hid (okID li[j] = true → (li.take (j + 1)).all okID = true) := Lib.hid fun hx => all_take HA.out hjn hx
                    clear ATC ATB ATI CC CB CI HM HA
                    generalize okID li[j] = r at *
                    generalize hx : li[j] = x at *
                    clear hx
                    obtain ⟨x0, x1, x2⟩ := x
                    go_wp2_with fail
                    refine (CP.out _).mono ?_
                    rintro e w3 ⟨rfl, hb⟩
                    replace HB := Lib.hid (HB.out.trans (hb.mono HB.out.size))
                    replace T1 := Lib.hid ((hb.block _ (lt_of_row T1.out)).trans T1.out)
                    clear hb CP k0 k1 k2 k3 k4 k5 d0 d1 d2
                    cases r with
                    | false =>
                      go_wp2
                      go_ret
                      rw [NO.out (by trivial)]
                      exact ⟨rfl, HB.out⟩
                    | true =>
                      go_wp2
                      go_roundw
                      case rel => exact ⟨j + 1, by omega, by go_num, Lib.hid (YES.out (by trivial)), HB, T1⟩
                      case measure => simp [intOf]; omega
                  · obtain rfl : j = li.length := by omega
                    have t9 : ¬ (li.length : Int) < (li.length : Int) := by omega
                    have DI : li.all okID = true := by have := HA.out; rwa [List.take_length] at this
                    replace DI := Lib.hid DI
                    clear HA hj hjn
                    have FIN : Hid (RES = true) := Lib.hid (by rw [HM.out, DA.out, DB.out, DI.out]; rfl)
                    clear ATC ATB ATI CC CB CI HM
                    go_wp2
                    go_ret
                    rw [FIN.out]
                    exact ⟨rfl, HB.out⟩
end Go.Proofs.YtdhlebmgeiiejaaGreat
