/- The document's store: how it lies there, where an entity stands. -/
import Derived.Test.YteohkbepefjjlaaKArMem2
import Derived.Deep.DeepCutAuto
namespace Go.Proofs.Yteohkbepefjjlaa
open Go.RowKit Pz
set_option linter.unusedVariables false
set_option linter.unusedSimpArgs false

namespace Ar
theorem rowOf_is {l : List Bn} {k : NK} {i : Nat} (hi : i < l.length) (he : l[i].id = k) (hn : ∀ (j : Nat) (hj : j < i), l[j].id ≠ k) : rowOf l k = some i :=
  List.findIdx?_eq_some_iff_getElem.2 ⟨hi, by simp [he], fun j hj => by simpa using hn j hj⟩
theorem rowOf_no {l : List Bn} {k : NK} (hn : ∀ (j : Nat) (hj : j < l.length), l[j].id ≠ k) : rowOf l k = none :=
  List.findIdx?_eq_none_iff.2 fun b hb => by
    obtain ⟨j, hj, rfl⟩ := List.getElem_of_mem hb
    simpa using hn j hj
theorem find_first {t : Tb} {k : NK} {m i : Nat} (hm : m < 32) (hn : ∀ a, a < m → rowOf (t a) k = none) (h : rowOf (t m) k = some i) : find t k = some (m, i) := by
  unfold find
  have e : List.range 32 = List.range m ++ m :: (List.range 32).drop (m + 1) := by
    have e1 := List.take_append_drop m (List.range 32)
    rw [List.take_range, Nat.min_eq_left (by omega), List.drop_eq_getElem_cons (by simpa using hm), List.getElem_range] at e1
    exact e1.symm
  rw [e, List.findSome?_append]
  have e2 : (List.range m).findSome? (fun m => (rowOf (t m) k).map (fun i => (m, i))) = none := List.findSome?_eq_none_iff.2 fun a ha => by rw [hn a (List.mem_range.1 ha)]; rfl
  rw [e2, List.findSome?_cons, h]
  rfl
theorem find_no {t : Tb} {k : NK} (hn : ∀ a, a < 32 → rowOf (t a) k = none) : find t k = none := by
  unfold find
  exact List.findSome?_eq_none_iff.2 fun a ha => by rw [hn a (List.mem_range.1 ha)]; rfl
/-- what the document's at answers -/
def atV (t : Tb) (k : NK) : Value := match find t k with | some (m, i) => .tuple #[.int .i64 (m : Int), .int .i64 (i : Int)] | none => .tuple #[.int .i64 (-1), .int .i64 (-1)]
end Ar
open Ar
/-- another row of its own for a table, its cell stored -/
theorem tabs_store {F F' : Foot} {cs : Array Value} {t : Tb} {w W : World} {p m : Nat} {X : TypeId} {v : Value} {l : List Bn} (hX : 35 ≠ X) (h : Tabs F cs t w) (hp : W.heap[p]? = some (.cells cs X (0, 0))) (hF : ∀ b, F b → F' b) (hm : m < 32)
    (hk : ∀ a u g, a < 32 → a ≠ m → cs[a]? = some u → u.ownBlock = some g → W.heap[g]? = w.heap[g]?) (ho : OwnB W 0 v l) (hl : l.length ≤ 100000)
    (hv : ∀ g, v.ownBlock = some g → F' g ∧ ∀ a u, a < 32 → a ≠ m → cs[a]? = some u → u.ownBlock ≠ some g) :
    (W.setCell ⟨p, m, none⟩ v).heap[p]? = some (.cells (cs.setIfInBounds m v) X (0, 0)) ∧ Tabs F' (cs.setIfInBounds m v) (up t m l) (W.setCell ⟨p, m, none⟩ v) := by
  refine ⟨Bx.set hp v, h.up hF hm (fun a u g ha hne hu hg => ?_) (ho.kept fun b hb => ?_) hl hv⟩
  · obtain ⟨_, cur, hc⟩ := h.other ha hu hg
    have e := hk a u g ha hne hu hg
    exact (Bx.ne (Bx.ne_type (e.trans hc) hp hX) _).trans e
  · obtain ⟨_, cur, hc⟩ := ho.blk hb
    exact Bx.ne (Bx.ne_type hc hp hX) _
/-- .. of the document's store: a new row -/
theorem RS.up {F : Foot} {p : Nat} {t : Tb} {w W : World} (h : RS F p t w) (hs : w.heap.size ≤ W.heap.size) (hk : ∀ k, k < w.heap.size → W.heap[k]? = w.heap[k]?) {m : Nat} (hm : m < 32) {v : Value} {l : List Bn} (ho : OwnB W 0 v l) (hl : l.length ≤ 100000) (hfr : ∀ g, v.ownBlock = some g → w.heap.size ≤ g) :
    RS (Gr F w.heap.size W.heap.size) p (Ar.up t m l) (W.setCell ⟨p, m, none⟩ v) := by
  obtain ⟨cs, h1, h2, h3⟩ := h.head
  have hp := h.lt p h.mine
  obtain ⟨a1, a2⟩ := tabs_store (F' := Gr F w.heap.size W.heap.size) (v := v) (l := l) (by decide) h3 ((hk p hp).trans h1) (fun b hb => .inl hb) hm (fun a u g ha _ hu hg => hk g (h.lt g (h3.other ha hu hg).1)) ho hl (fun g hg => by
    obtain ⟨_, cur, hc⟩ := ho.blk hg
    refine ⟨.inr ⟨hfr g hg, Bx.lt hc⟩, fun a u ha _ hu hg' => ?_⟩
    have := h.lt g (h3.other ha hu hg').1
    have := hfr g hg
    omega)
  exact ⟨⟨_, a1, by simpa using h2, a2⟩, .inl h.mine, fun b hb => by
    rw [World.size_setCell]
    rcases hb with hb | hb
    · have := h.lt b hb; omega
    · exact hb.2⟩
set_option maxHeartbeats 8000000 in
set_option maxRecDepth 100000 in
theorem rat_any {F : Foot} {p : Nat} {t : Tb} {w : World} (h : RS F p t w) (k1 k2 k3 : Int) : Calls Try.prog 37 #[.pointer (some ⟨p, 0, none⟩), .agg #[.int .i64 k1, .int .i64 k2, .int .i64 k3]] w fun e w' => e = .returned (atV t (k1, k2, k3)) ∧ Below w.heap.size w w' := by
  have T1 := Lib.hid (at1 w (.cells #[.int .i64 k1, .int .i64 k2, .int .i64 k3] 33))
  have HB := Lib.hid (bel1 w (.cells #[.int .i64 k1, .int .i64 k2, .int .i64 k3] 33))
  have HR := Lib.hid (h.below (bel1 w (.cells #[.int .i64 k1, .int .i64 k2, .int .i64 k3] 33)))
  have FIN : Hid (∀ m i, m < 32 → (∀ a, a < m → rowOf (t a) (k1, k2, k3) = none) → rowOf (t m) (k1, k2, k3) = some i → atV t (k1, k2, k3) = .tuple #[.int .i64 (m : Int), .int .i64 (i : Int)]) := Lib.hid fun m i hm hn hr => by unfold atV; rw [find_first hm hn hr]
  have NON : Hid ((∀ a, a < 32 → rowOf (t a) (k1, k2, k3) = none) → atV t (k1, k2, k3) = .tuple #[.int .i64 (-1), .int .i64 (-1)]) := Lib.hid fun hn => by unfold atV; rw [find_no hn]
  generalize atV t (k1, k2, k3) = RES at *
  clear h
  go_enter Try.func37, Try.ntmps37
  go_upto_region 1 with fail
  generalize w.alloc (.cells #[.int .i64 k1, .int .i64 k2, .int .i64 k3] 33) = w1 at *
  go_wp2
  go_loopw [6] (fun ix wr => ∃ m : Nat, m ≤ 32 ∧ ix = .int .i64 m ∧ Hid (Below w1.heap.size w1 wr) ∧ Hid (∀ a, a < m → rowOf (t a) (k1, k2, k3) = none)) (fun ix _ => 32 - (intOf ix).toNat)
  case atStart => exact ⟨0, by omega, rfl, Lib.hid (Below.refl _ _), Lib.hid (fun a ha => by omega)⟩
  case round =>
    obtain ⟨m, hm, rfl, HW, HN⟩ := hrel
    by_cases hlt : m < 32
    · have t1 : (m : Int) < 32 := by omega
      go_wp2
      go_loopw [7] (fun iy wq => ∃ i : Nat, i ≤ (t m).length ∧ iy = .int .i64 i ∧ Hid (Below w1.heap.size w1 wq) ∧ Hid (∀ (j : Nat) (hj : j < i) (hl : j < (t m).length), (t m)[j].id ≠ (k1, k2, k3))) (fun iy _ => (t m).length - (intOf iy).toNat)
      case atStart => exact ⟨0, by omega, rfl, HW, Lib.hid (fun j hj => by omega)⟩
      case round =>
        obtain ⟨i, hi, rfl, HQ, HJ⟩ := hrel
        obtain ⟨A, c, hc, ho⟩ := (HR.out.below HQ.out).at_ hlt
        have hfew : ((t m).length : Int) ≤ 100000 := by have := HR.out.few m; omega
        by_cases hil : i < (t m).length
        · have t2 : (i : Int) < ((t m).length : Int) := by omega
          obtain ⟨g, o, rfl, _, ⟨y0, y1, y2, y3, y4, y5, y6, y7, y8, y9, y10⟩, _⟩ := own_at ho (List.getElem?_eq_getElem hil)
          obtain ⟨⟨q0, q1, q2⟩, _⟩ := Bx.b3 ((HQ.out.block _ (Bx.lt T1.out)).trans T1.out)
          have EQ : ∀ V : World, (Op.equalIn 10000 33 (.agg #[.int .i64 (t m)[i].s, .int .i64 (t m)[i].i, .int .i64 (t m)[i].g]) (.agg #[.int .i64 k1, .int .i64 k2, .int .i64 k3])).run Try.prog V = .ok (decide ((t m)[i].id = (k1, k2, k3))) V := fun V => by
            rw [eq_id 9998]
            congr 1
            rw [Bool.eq_iff_iff, decide_eq_true_eq]
            simp [Bn.id]
          have NX : Hid (∀ n, Below w1.heap.size w1 (wr.drewN n)) := Lib.hid fun n => Below.dn' HQ.out n
          have YES : Hid ((t m)[i].id = (k1, k2, k3) → rowOf (t m) (k1, k2, k3) = some i) := Lib.hid fun e => rowOf_is hil e (fun j hj => HJ.out j hj (by omega))
          have NO : Hid (¬ (t m)[i].id = (k1, k2, k3) → ∀ (j : Nat) (hj : j < i + 1) (hl : j < (t m).length), (t m)[j].id ≠ (k1, k2, k3)) := Lib.hid fun e j hj hl => by
            by_cases he : j = i
            · subst he; exact e
            · exact HJ.out j (by omega) hl
          clear HJ ho T1 HQ NON y3 y4 y5 y6 y7 y8 y9 y10
          by_cases hid : (t m)[i].id = (k1, k2, k3)
          · have FF := FIN.out m i hlt HN.out (YES.out hid)
            rw [decide_eq_true hid] at EQ
            clear YES NO FIN HN hid HR
            generalize (t m)[i].s = z0 at *
            generalize (t m)[i].i = z1 at *
            generalize (t m)[i].g = z2 at *
            replace FF := Lib.hid FF
            go_wp2
            go_quiet (fail)
            go_wp2
            go_ret2
            rw [FF.out]
            exact ⟨rfl, HB.out.trans ((NX.out _).mono HB.out.size)⟩
          · have HJ2 := Lib.hid (NO.out hid)
            rw [decide_eq_false hid] at EQ
            clear YES NO FIN hid
            generalize (t m)[i].s = z0 at *
            generalize (t m)[i].i = z1 at *
            generalize (t m)[i].g = z2 at *
            go_wp2
            go_quiet (fail)
            go_wp2
            go_roundw
            case rel => exact ⟨i + 1, by omega, by go_num, Lib.hid (NX.out _), HJ2⟩
            case measure => simp [intOf]; omega
        · obtain rfl : i = (t m).length := by omega
          have t2 : ¬ ((t m).length : Int) < ((t m).length : Int) := by omega
          have HN2 : Hid (∀ a, a < m + 1 → rowOf (t a) (k1, k2, k3) = none) := Lib.hid fun a ha => by
            by_cases e : a = m
            · subst e; exact rowOf_no (fun j hj => HJ.out j hj hj)
            · exact HN.out a (by omega)
          clear HJ HN
          go_wp2
          go_roundw
          case rel => exact ⟨m + 1, by omega, by go_num, HQ, HN2⟩
          case measure => simp [intOf]; omega
    · obtain rfl : m = 32 := by omega
      have t1 : ¬ (32 : Int) < 32 := by omega
      have FF := Lib.hid (NON.out (fun a ha => HN.out a ha))
      clear NON FIN HN
      go_wp2
      go_ret2
      rw [FF.out]
      exact ⟨rfl, HB.out.trans (HW.out.mono HB.out.size)⟩
end Go.Proofs.Yteohkbepefjjlaa
