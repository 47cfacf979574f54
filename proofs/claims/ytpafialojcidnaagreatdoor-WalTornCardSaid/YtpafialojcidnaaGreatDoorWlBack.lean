/- slices.Backward of a row of ints: how it is ranged over. -/
import Derived.Test.YtpafialojcidnaaGreatDoorWlSegs
import Derived.RangeFuncNested
import Derived.RangeFuncBound
import Derived.RangeFuncCalls
import Derived.RangeFuncLeaves
import Derived.RangeFuncWrites
import Derived.RangeFuncBox
import Derived.Shelf.Abstract
import Derived.Shelf.RegionOpen
import Derived.WalkKit
import Derived.OwnWalkIn
import Derived.TacticsInMore
import Derived.LoopNIn
import Derived.LoopIn
namespace Go.Proofs.YtpafialojcidnaaGreatDoor
open Go.RowKit Go.Shelf Go.Maps Dk
set_option linter.unusedVariables false
attribute [local go_sem] Oper.semAt_some

/-! ### what the loop's own book-keeping leaves -/
/-- cells of whatever a disk's deeds leave -/
def isRow : Obj → Bool
  | .cells _ T _ => !(T == 65 || T == 70 || T == 5)
  | _ => false
theorem row_ref {o : Obj} (h : isRow o = true) : isRef o = true := by
  cases o with
  | cells c T f => exact h
  | _ => cases h
theorem Kp.put {p : Obj → Bool} {W : World} {l : Nat} {o : Obj} (h : W.heap[l]? = some o) (hp : p o = false) (o' : Obj) : Kp p W (W.putObj l o') := fun i x hi hx =>
  (World.putObj_heap_other (fun e => by subst e; rw [h] at hi; cases hi; rw [hp] at hx; cases hx)).trans hi

/-- an index of a row, and the number that stands there -/
abbrev It := { x : Nat × Nat // x.1 ≤ 1000000 ∧ x.2 ≤ 99999999 }
def encI (x : It) : Array Value := #[.int .i64 (x.1.1 : Int), .int .i64 (x.1.2 : Int)]
/-- a row's numbers, the last one first, so many of them -/
def downTo (zs : List It) (k : Nat) : List It := zs.reverse.take k
theorem down_succ (zs : List It) (k : Nat) (h : k < zs.length) : downTo zs (k + 1) = downTo zs k ++ [zs[zs.length - 1 - k]] := by
  unfold downTo
  rw [List.take_succ_eq_append_getElem (by rw [List.length_reverse]; exact h), List.getElem_reverse]
theorem down_all (zs : List It) : downTo zs zs.length = zs.reverse := by unfold downTo; rw [← List.length_reverse, List.take_length]

set_option maxRecDepth 100000 in
set_option maxHeartbeats 4000000 in
theorem back_run (n : Nat) (hn : 1 ≤ n) (l Bs b off len cap : Nat) (zs : List It) (hl : len = zs.length) (hlen : len ≤ 1000000) (hi : ∀ k (h : k < zs.length), zs[k].1.1 = k) (J Jx : List It → World → Prop)
    (hY : ∀ pre x W, J pre W → pre.length < len → YieldAt Fence.wide (n - 1) Tryz.prog l (encI x) W fun e W' =>
      (e = .returned (.bool true) ∧ J (pre ++ [x]) W' ∧ Kp isRow W W') ∨ (e = .returned (.bool false) ∧ Jx (pre ++ [x]) W'))
    (W : World) (hBs : W.heap[Bs]? = some (.cells #[.slice (some ⟨b, off, none⟩) len cap] 38 (0, 0))) (hrow : ∃ cs, W.heap[b]? = some (.cells cs 3 (0, 0))) (hc : ∀ k (h : k < zs.length), W.cell? ⟨b, off + k, none⟩ = some (.int .i64 (zs[k].1.2 : Int))) (h0 : J [] W) :
    CallsIn Fence.wide n Tryz.prog 74 #[.func (.yield l) #[] #[], .pointer (some ⟨Bs, 0, none⟩)] W fun e W' => (∃ v, e = .returned v) ∧
      ((∃ ys, ys = zs.reverse ∧ J ys W') ∨ (∃ pre, (∃ k, k ≤ len ∧ pre = downTo zs k) ∧ Jx pre W')) := by
  obtain ⟨cs, hrow⟩ := hrow
  refine callsIn_of_wp Tryz.func74 rfl trivial ?_ rfl
  simp only [Tryz.ntmps74, List.size_toArray, List.length_cons, List.length_nil, Nat.reduceAdd, Nat.reduceSub, Array.replicate_succ, Array.replicate_zero, List.push_toArray, List.append_toArray, List.nil_append, List.cons_append]
  have hb0 : W.cell? ⟨Bs, 0, none⟩ = some (.slice (some ⟨b, off, none⟩) len cap) := by simp [World.cell?, hBs]
  have hw0 : IntKind.i64.wrap ((len : Int) - 1) = (len : Int) - 1 := IntWalk.i64_in _ ⟨by omega, by omega⟩
  gi_wp2
  gi_loopw [3] (fun i wr => ∃ k : Nat, k ≤ len ∧ i = .int .i64 ((len : Int) - 1 - k) ∧ J (downTo zs k) wr ∧ Kp isRow W wr)
    (fun i _ => (intOf i + 1).toNat)
  case atStart => exact ⟨0, Nat.zero_le _, by simp [hl], h0, Kp.refl _ _⟩
  case round =>
    obtain ⟨k, hk, rfl, hJs, hkp⟩ := hrel
    by_cases hlt : k < len
    · have hlt' : k < zs.length := by omega
      have hlt2 : zs.length - 1 - k < zs.length := by omega
      have hds := down_succ zs k hlt'
      have hip := hi _ hlt2
      have hc' := hc _ hlt2
      have hyx := hY (downTo zs k) zs[zs.length - 1 - k] wr hJs (by unfold downTo; rw [List.length_take, List.length_reverse]; omega)
      generalize (zs[zs.length - 1 - k] : It) = x0 at *
      obtain ⟨⟨i0, nn⟩, hx⟩ := x0
      dsimp only at hip hc'
      subst hip
      have hpi : (len : Int) - 1 - (k : Int) = ((zs.length - 1 - k : Nat) : Int) := by omega
      rw [hpi]
      have hpn : (((zs.length - 1 - k : Nat) : Int)).toNat < len := by omega
      obtain ⟨p, hp⟩ : ∃ p, zs.length - 1 - k = p := ⟨_, rfl⟩
      rw [hp] at hc' hpi hpn
      have hbx := hkp _ _ hBs rfl
      have hrw := hkp _ _ hrow rfl
      have hcell : wr.cell? ⟨b, off + p, none⟩ = some (.int .i64 (nn : Int)) := by
        rw [← hc']
        simp [World.cell?, hrw, hrow]
      have hbc : wr.cell? ⟨Bs, 0, none⟩ = some (.slice (some ⟨b, off, none⟩) len cap) := by simp [World.cell?, hbx]
      obtain ⟨fn, tmps, assign, body, hy, hR⟩ := hyx
      rw [← hds] at hR
      unfold encI at hy
      dsimp only at hy
      rw [hp] at hy ⊢
      clear hds hi hc hY
      gi_wp2
      refine hR.mono ?_
      rintro e W3 (⟨rfl, hJ3, hk3⟩ | ⟨rfl, hJx3⟩)
      · gi_wp2
        go_roundw
        case rel => exact ⟨k + 1, by omega, by go_num, hJ3, hkp.trans hk3⟩
        case measure => simp [intOf]
      · gi_wp2
        refine bodyPost_ret (results_none rfl _ _ _) rfl ?_
        exact ⟨⟨_, rfl⟩, .inr ⟨_, ⟨k + 1, by omega, rfl⟩, hJx3⟩⟩
    · obtain rfl : k = len := by omega
      have hz : (k : Int) - 1 - (k : Int) = -1 := by omega
      rw [hz]
      gi_wp2
      go_end0
      exact ⟨⟨_, rfl⟩, .inl ⟨_, rfl, by rw [← down_all, ← hl]; exact hJs⟩⟩

set_option maxRecDepth 100000 in
set_option maxHeartbeats 1000000 in
/-- .. at the nil row: no round -/
theorem back_nil (n : Nat) (l Bs : Nat) (J : List It → World → Prop) (W : World) (hBs : W.heap[Bs]? = some (.cells #[.slice none 0 0] 38 (0, 0))) (h0 : J [] W) :
    CallsIn Fence.wide n Tryz.prog 74 #[.func (.yield l) #[] #[], .pointer (some ⟨Bs, 0, none⟩)] W fun e W' => (∃ v, e = .returned v) ∧ J [] W' := by
  refine callsIn_of_wp Tryz.func74 rfl trivial ?_ rfl
  simp only [Tryz.ntmps74, List.size_toArray, List.length_cons, List.length_nil, Nat.reduceAdd, Nat.reduceSub, Array.replicate_succ, Array.replicate_zero, List.push_toArray, List.append_toArray, List.nil_append, List.cons_append]
  have hb0 : W.cell? ⟨Bs, 0, none⟩ = some (.slice none 0 0) := by simp [World.cell?, hBs]
  gi_wp2
  gi_loopw [3] (fun i wr => i = .int .i64 (-1) ∧ J [] wr) (fun _ _ => 0)
  case atStart => exact ⟨rfl, h0⟩
  case round =>
    obtain ⟨rfl, hJs⟩ := hrel
    gi_wp2
    go_end0
    exact ⟨⟨_, rfl⟩, hJs⟩

/-- a slice that holds numbers with their indices -/
def ItsAt (W : World) (A : Option Addr) (n cap : Nat) (zs : List It) : Prop :=
  n = zs.length ∧ (∀ k (h : k < zs.length), zs[k].1.1 = k) ∧ ((A = none ∧ zs = [] ∧ cap = 0) ∨ ∃ b off cs, A = some ⟨b, off, none⟩ ∧ W.heap[b]? = some (.cells cs 3 (0, 0)) ∧ ∀ k (h : k < zs.length), W.cell? ⟨b, off + k, none⟩ = some (.int .i64 (zs[k].1.2 : Int)))
theorem ItsAt.kp {W W' : World} {A : Option Addr} {n cap : Nat} {zs : List It} (h : ItsAt W A n cap zs) (hk : Kp isRow W W') : ItsAt W' A n cap zs := by
  obtain ⟨h1, h2, h3⟩ := h
  refine ⟨h1, h2, h3.imp id ?_⟩
  rintro ⟨b, off, cs, rfl, hb, hc⟩
  have hb' := hk _ _ hb rfl
  refine ⟨b, off, cs, rfl, hb', fun k h => ?_⟩
  rw [← hc k h]
  simp [World.cell?, hb, hb']

/-- how Backward is ranged over -/
theorem back_stops (n : Nat) (hn : 1 ≤ n) (Bs : Nat) (A : Option Addr) (len cap : Nat) (zs : List It) (hlen : len ≤ 1000000) (w : World) (hBs : w.heap[Bs]? = some (.cells #[.slice A len cap] 38 (0, 0))) (hI : ItsAt w A len cap zs) :
    SeqStopsK Fence.wide n Tryz.prog 74 #[.pointer (some ⟨Bs, 0, none⟩)] encI (Kp isRow) (fun ys => ys = zs.reverse) (fun pre => pre <+: zs.reverse) len w := fun l J Jx W hW _ _ hY h0 => by
  have hBs' := (hW.block Bs (heap_lt hBs)).trans hBs
  obtain ⟨h1, h2, h3⟩ := hI.kp (Kp.below hW)
  rcases h3 with ⟨rfl, rfl, rfl⟩ | ⟨b, off, cs, rfl, hb, hc⟩
  · simp at h1
    subst h1
    exact (back_nil n l Bs J W hBs' h0).mono fun e W' ⟨he, hj⟩ => ⟨he, .inl ⟨_, rfl, hj⟩⟩
  · refine (back_run n hn l Bs b off len cap zs h1 hlen h2 J Jx hY W hBs' ⟨cs, hb⟩ hc h0).mono ?_
    rintro e W' ⟨he, ⟨ys, rfl, hj⟩ | ⟨pre, ⟨k, hk, rfl⟩, hj⟩⟩
    · exact ⟨he, .inl ⟨_, rfl, hj⟩⟩
    · exact ⟨he, .inr ⟨_, List.take_prefix _ _, hj⟩⟩

set_option maxRecDepth 100000 in
set_option maxHeartbeats 1000000 in
theorem back_any (A : Option Addr) (len cap : Nat) (w : World) :
    Calls Tryz.prog 60 #[.slice A len cap] w fun e w' => e = .returned (.func (.func 74) #[] #[.pointer (some ⟨w.heap.size, 0, none⟩)]) ∧ w' = w.alloc (.cells #[.slice A len cap] 38) := by
  go_enter Tryz.func60, Tryz.ntmps60
  go_wp2
  go_ret
  exact ⟨rfl, rfl⟩
end Go.Proofs.YtpafialojcidnaaGreatDoor
