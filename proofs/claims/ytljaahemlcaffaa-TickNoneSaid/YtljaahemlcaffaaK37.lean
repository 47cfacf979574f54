/- Not too many of anything. Written by wip/tools/gentk.py. Of no map, and of a zone that there is not, nothing is left. Written by wip/tools/gentk.py. -/
import Derived.Test.YtljaahemlcaffaaK32
import Derived.Deep.CutBlock
import Derived.Test.YtljaahemlcaffaaK01
namespace Go.Proofs.Ytljaahemlcaffaa
open Go.RowKit Pz Sp
set_option linter.unusedVariables false
set_option linter.unusedSimpArgs false


set_option maxHeartbeats 8000000 in
set_option maxRecDepth 100000 in
theorem few15_any (c0C c0R c0S c0D c0V c0N c0Q z : Int) {A1 A2 A3 : Option Addr} {n1 n2 n3 q1 q2 q3 : Nat} (h1 : n1 ≤ q1 ∧ q1 ≤ 140737488351232) (h2 : n2 ≤ q2 ∧ q2 ≤ 140737488351232) (h3 : n3 ≤ q3 ∧ q3 ≤ 140737488351232) (w : World) :
    Calls Try.prog 4 #[.agg #[.int .i64 c0C, .int .i64 c0R, .int .i64 c0S, .int .i64 c0D, .int .i64 c0V, .int .i64 c0N, .int .i64 c0Q, .int .i64 z, .slice A1 n1 q1, .slice A2 n2 q2, .slice A3 n3 q3]] w fun e w' => e = .returned (.agg #[.int .i64 (Zn.mC c0C), .int .i64 (Zn.mC c0R), .int .i64 (Zn.mS c0S), .int .i64 (Zn.mD c0S c0D), .int .i64 (Zn.mD c0S c0V), .int .i64 (Zn.mN c0N), .int .i64 (Zn.mQ c0Q), .int .i64 z, .slice A1 (min n1 40) q1, .slice A2 (min n2 40) q2, .slice A3 (min n3 40) q3]) ∧ Below w.heap.size w w' := by
  have MY := Lib.hid fun W => zmay_any c0C c0R c0S c0D c0V c0N c0Q W
  generalize (Zn.mC c0C) = mC at *
  generalize (Zn.mC c0R) = mR at *
  generalize (Zn.mD c0S c0D) = mD at *
  generalize (Zn.mD c0S c0V) = mV at *
  generalize (Zn.mS c0S) = mS at *
  generalize (Zn.mN c0N) = mN at *
  generalize (Zn.mQ c0Q) = mQ at *
  have H0 : Hid (Sep w [box w.heap.size (.cells #[.int .i64 c0C, .int .i64 c0R, .int .i64 c0S, .int .i64 c0D, .int .i64 c0V, .int .i64 c0N, .int .i64 c0Q, .int .i64 z, .slice A1 n1 q1, .slice A2 n2 q2, .slice A3 n3 q3] 27), box (w.heap.size + 1) (.cells #[.int .i64 0, .int .i64 0, .int .i64 0, .int .i64 0, .int .i64 0, .int .i64 0, .int .i64 0, .int .i64 0, .slice none 0 0, .slice none 0 0, .slice none 0 0] 27)] ((w.alloc (.cells #[.int .i64 c0C, .int .i64 c0R, .int .i64 c0S, .int .i64 c0D, .int .i64 c0V, .int .i64 c0N, .int .i64 c0Q, .int .i64 z, .slice A1 n1 q1, .slice A2 n2 q2, .slice A3 n3 q3] 27)).alloc (.cells #[.int .i64 0, .int .i64 0, .int .i64 0, .int .i64 0, .int .i64 0, .int .i64 0, .int .i64 0, .int .i64 0, .slice none 0 0, .slice none 0 0, .slice none 0 0] 27))) := Lib.hid (by
    have := (sep_box (sep_box (sep_new w) (.cells #[.int .i64 c0C, .int .i64 c0R, .int .i64 c0S, .int .i64 c0D, .int .i64 c0V, .int .i64 c0N, .int .i64 c0Q, .int .i64 z, .slice A1 n1 q1, .slice A2 n2 q2, .slice A3 n3 q3] 27)) (.cells #[.int .i64 0, .int .i64 0, .int .i64 0, .int .i64 0, .int .i64 0, .int .i64 0, .int .i64 0, .int .i64 0, .slice none 0 0, .slice none 0 0, .slice none 0 0] 27)).pull 1 rfl
    rw [size1] at this
    exact this)
  go_enter Try.func4, Try.ntmps4
  go_upto_region 1 with fail
  generalize (w.alloc (.cells #[.int .i64 c0C, .int .i64 c0R, .int .i64 c0S, .int .i64 c0D, .int .i64 c0V, .int .i64 c0N, .int .i64 c0Q, .int .i64 z, .slice A1 n1 q1, .slice A2 n2 q2, .slice A3 n3 q3] 27)).alloc (.cells #[.int .i64 0, .int .i64 0, .int .i64 0, .int .i64 0, .int .i64 0, .int .i64 0, .int .i64 0, .int .i64 0, .slice none 0 0, .slice none 0 0, .slice none 0 0] 27) = w0 at *
  obtain ⟨⟨k0, k1, k2, k3, k4, k5, k6, k7, k8, k9, k10⟩, ⟨f0, f1, f2, f3, f4, f5, f6, f7, f8, f9, f10⟩⟩ := Bx.b11 (H0.out.held 0 rfl)
  obtain ⟨_, ⟨r0, r1, r2, r3, r4, r5, r6, r7, r8, r9, r10⟩⟩ := Bx.b11 (H0.out.held 1 rfl)
  go_upto_region 2 with (go_at_call 10; with_reducible refine (MY.out _).mono ?_; rintro e w1 ⟨rfl, b1⟩; clear MY k0 k1 k2 k3 k4 k5 k6 k7 k8 k9 k10 f0 f1 f2 f3 f4 f5 f6 f7 f8 f9 f10 r0 r1 r2 r3 r4 r5 r6 r7 r8 r9 r10; have H1 := Lib.hid (H0.out.below b1); clear H0 b1; obtain ⟨⟨k0, k1, k2, k3, k4, k5, k6, k7, k8, k9, k10⟩, ⟨f0, f1, f2, f3, f4, f5, f6, f7, f8, f9, f10⟩⟩ := Bx.b11 (H1.out.held 0 rfl))
  have HS := (((((((H1.out.cell (o := 0) (.int .i64 mC)).cell (o := 1) (.int .i64 mR)).cell (o := 2) (.int .i64 mS)).cell (o := 3) (.int .i64 mD)).cell (o := 4) (.int .i64 mV)).cell (o := 5) (.int .i64 mN)).cell (o := 6) (.int .i64 mQ))
  simp only [List.setIfInBounds_toArray, List.set_cons_succ, List.set_cons_zero] at HS
  replace HS := Lib.hid HS
  clear k0 k1 k2 k3 k4 k5 k6 k7 k8 k9 k10 f0 f1 f2 f3 f4 f5 f6 f7 f8 f9 f10 H1
  generalize (((((((w1.setCell ⟨w.heap.size, 0, none⟩ (.int .i64 mC)).setCell ⟨w.heap.size, 1, none⟩ (.int .i64 mR)).setCell ⟨w.heap.size, 2, none⟩ (.int .i64 mS)).setCell ⟨w.heap.size, 3, none⟩ (.int .i64 mD)).setCell ⟨w.heap.size, 4, none⟩ (.int .i64 mV)).setCell ⟨w.heap.size, 5, none⟩ (.int .i64 mN)).setCell ⟨w.heap.size, 6, none⟩ (.int .i64 mQ)) = w2 at *
  obtain ⟨⟨k0, k1, k2, k3, k4, k5, k6, k7, k8, k9, k10⟩, ⟨f0, f1, f2, f3, f4, f5, f6, f7, f8, f9, f10⟩⟩ := Bx.b11 (HS.out.held 0 rfl)
  go_upto_if 10 with fail
  go_cut [] (fun wx => Hid (Sep w [box w.heap.size (.cells #[.int .i64 mC, .int .i64 mR, .int .i64 mS, .int .i64 mD, .int .i64 mV, .int .i64 mN, .int .i64 mQ, .int .i64 z, .slice A1 (min n1 40) q1, .slice A2 n2 q2, .slice A3 n3 q3] 27), box (w.heap.size + 1) (.cells #[.int .i64 0, .int .i64 0, .int .i64 0, .int .i64 0, .int .i64 0, .int .i64 0, .int .i64 0, .int .i64 0, .slice none 0 0, .slice none 0 0, .slice none 0 0] 27)] wx))
  case first =>
    by_cases g1 : 40 < n1
    · have t1 : (n1 : Int) > 40 := by omega
      have t2 : 40 ≤ n1 := by omega
      have HX := HS.out.cell (o := 8) (.slice A1 40 q1)
      simp only [List.setIfInBounds_toArray, List.set_cons_succ, List.set_cons_zero] at HX
      replace HX := Lib.hid HX
      have e : min n1 40 = 40 := by omega
      go_wp2
      go_meet
      case rel =>
        rw [e]
        exact HX
    · have t1 : ¬ (n1 : Int) > 40 := by omega
      have e : min n1 40 = n1 := by omega
      go_wp2
      go_meet
      case rel =>
        rw [e]
        exact HS
  case rest =>
    clear HS k0 k1 k2 k3 k4 k5 k6 k7 k8 k9 k10 f0 f1 f2 f3 f4 f5 f6 f7 f8 f9 f10
    have HS : Hid (Sep w [box w.heap.size (.cells #[.int .i64 mC, .int .i64 mR, .int .i64 mS, .int .i64 mD, .int .i64 mV, .int .i64 mN, .int .i64 mQ, .int .i64 z, .slice A1 (min n1 40) q1, .slice A2 n2 q2, .slice A3 n3 q3] 27), box (w.heap.size + 1) (.cells #[.int .i64 0, .int .i64 0, .int .i64 0, .int .i64 0, .int .i64 0, .int .i64 0, .int .i64 0, .int .i64 0, .slice none 0 0, .slice none 0 0, .slice none 0 0] 27)] wc) := hcut
    clear hcut
    obtain ⟨⟨k0, k1, k2, k3, k4, k5, k6, k7, k8, k9, k10⟩, ⟨f0, f1, f2, f3, f4, f5, f6, f7, f8, f9, f10⟩⟩ := Bx.b11 (HS.out.held 0 rfl)
    go_upto_if 18 with fail
    go_cut [] (fun wx => Hid (Sep w [box w.heap.size (.cells #[.int .i64 mC, .int .i64 mR, .int .i64 mS, .int .i64 mD, .int .i64 mV, .int .i64 mN, .int .i64 mQ, .int .i64 z, .slice A1 (min n1 40) q1, .slice A2 (min n2 40) q2, .slice A3 n3 q3] 27), box (w.heap.size + 1) (.cells #[.int .i64 0, .int .i64 0, .int .i64 0, .int .i64 0, .int .i64 0, .int .i64 0, .int .i64 0, .int .i64 0, .slice none 0 0, .slice none 0 0, .slice none 0 0] 27)] wx))
    case first =>
      by_cases g1 : 40 < n2
      · have t1 : (n2 : Int) > 40 := by omega
        have t2 : 40 ≤ n2 := by omega
        have HX := HS.out.cell (o := 9) (.slice A2 40 q2)
        simp only [List.setIfInBounds_toArray, List.set_cons_succ, List.set_cons_zero] at HX
        replace HX := Lib.hid HX
        have e : min n2 40 = 40 := by omega
        go_wp2
        go_meet
        case rel =>
          rw [e]
          exact HX
      · have t1 : ¬ (n2 : Int) > 40 := by omega
        have e : min n2 40 = n2 := by omega
        go_wp2
        go_meet
        case rel =>
          rw [e]
          exact HS
    case rest =>
      clear HS k0 k1 k2 k3 k4 k5 k6 k7 k8 k9 k10 f0 f1 f2 f3 f4 f5 f6 f7 f8 f9 f10
      have HS : Hid (Sep w [box w.heap.size (.cells #[.int .i64 mC, .int .i64 mR, .int .i64 mS, .int .i64 mD, .int .i64 mV, .int .i64 mN, .int .i64 mQ, .int .i64 z, .slice A1 (min n1 40) q1, .slice A2 (min n2 40) q2, .slice A3 n3 q3] 27), box (w.heap.size + 1) (.cells #[.int .i64 0, .int .i64 0, .int .i64 0, .int .i64 0, .int .i64 0, .int .i64 0, .int .i64 0, .int .i64 0, .slice none 0 0, .slice none 0 0, .slice none 0 0] 27)] wc) := hcut
      clear hcut
      obtain ⟨⟨k0, k1, k2, k3, k4, k5, k6, k7, k8, k9, k10⟩, ⟨f0, f1, f2, f3, f4, f5, f6, f7, f8, f9, f10⟩⟩ := Bx.b11 (HS.out.held 0 rfl)
      go_upto_if 26 with fail
      go_cut [] (fun wx => Hid (Sep w [box w.heap.size (.cells #[.int .i64 mC, .int .i64 mR, .int .i64 mS, .int .i64 mD, .int .i64 mV, .int .i64 mN, .int .i64 mQ, .int .i64 z, .slice A1 (min n1 40) q1, .slice A2 (min n2 40) q2, .slice A3 (min n3 40) q3] 27), box (w.heap.size + 1) (.cells #[.int .i64 0, .int .i64 0, .int .i64 0, .int .i64 0, .int .i64 0, .int .i64 0, .int .i64 0, .int .i64 0, .slice none 0 0, .slice none 0 0, .slice none 0 0] 27)] wx))
      case first =>
        by_cases g1 : 40 < n3
        · have t1 : (n3 : Int) > 40 := by omega
          have t2 : 40 ≤ n3 := by omega
          have HX := HS.out.cell (o := 10) (.slice A3 40 q3)
          simp only [List.setIfInBounds_toArray, List.set_cons_succ, List.set_cons_zero] at HX
          replace HX := Lib.hid HX
          have e : min n3 40 = 40 := by omega
          go_wp2
          go_meet
          case rel =>
            rw [e]
            exact HX
        · have t1 : ¬ (n3 : Int) > 40 := by omega
          have e : min n3 40 = n3 := by omega
          go_wp2
          go_meet
          case rel =>
            rw [e]
            exact HS
      case rest =>
        clear HS k0 k1 k2 k3 k4 k5 k6 k7 k8 k9 k10 f0 f1 f2 f3 f4 f5 f6 f7 f8 f9 f10
        have HS : Hid (Sep w [box w.heap.size (.cells #[.int .i64 mC, .int .i64 mR, .int .i64 mS, .int .i64 mD, .int .i64 mV, .int .i64 mN, .int .i64 mQ, .int .i64 z, .slice A1 (min n1 40) q1, .slice A2 (min n2 40) q2, .slice A3 (min n3 40) q3] 27), box (w.heap.size + 1) (.cells #[.int .i64 0, .int .i64 0, .int .i64 0, .int .i64 0, .int .i64 0, .int .i64 0, .int .i64 0, .int .i64 0, .slice none 0 0, .slice none 0 0, .slice none 0 0] 27)] wc) := hcut
        clear hcut
        obtain ⟨⟨k0, k1, k2, k3, k4, k5, k6, k7, k8, k9, k10⟩, ⟨f0, f1, f2, f3, f4, f5, f6, f7, f8, f9, f10⟩⟩ := Bx.b11 (HS.out.held 0 rfl)
        obtain ⟨_, ⟨r0, r1, r2, r3, r4, r5, r6, r7, r8, r9, r10⟩⟩ := Bx.b11 (HS.out.held 1 rfl)
        have HF := Lib.hid ((show Sep w [box (w.heap.size + 1) (.cells #[.int .i64 0, .int .i64 0, .int .i64 0, .int .i64 0, .int .i64 0, .int .i64 0, .int .i64 0, .int .i64 0, .slice none 0 0, .slice none 0 0, .slice none 0 0] 27), box w.heap.size (.cells #[.int .i64 mC, .int .i64 mR, .int .i64 mS, .int .i64 mD, .int .i64 mV, .int .i64 mN, .int .i64 mQ, .int .i64 z, .slice A1 (min n1 40) q1, .slice A2 (min n2 40) q2, .slice A3 (min n3 40) q3] 27)] wc from HS.out.pull 1 rfl).set11 (.int .i64 mC) (.int .i64 mR) (.int .i64 mS) (.int .i64 mD) (.int .i64 mV) (.int .i64 mN) (.int .i64 mQ) (.int .i64 z) (.slice A1 (min n1 40) q1) (.slice A2 (min n2 40) q2) (.slice A3 (min n3 40) q3))
        go_wp2
        generalize (((((((((((wc.setCell ⟨w.heap.size + 1, 0, none⟩ (.int .i64 mC)).setCell ⟨w.heap.size + 1, 1, none⟩ (.int .i64 mR)).setCell ⟨w.heap.size + 1, 2, none⟩ (.int .i64 mS)).setCell ⟨w.heap.size + 1, 3, none⟩ (.int .i64 mD)).setCell ⟨w.heap.size + 1, 4, none⟩ (.int .i64 mV)).setCell ⟨w.heap.size + 1, 5, none⟩ (.int .i64 mN)).setCell ⟨w.heap.size + 1, 6, none⟩ (.int .i64 mQ)).setCell ⟨w.heap.size + 1, 7, none⟩ (.int .i64 z)).setCell ⟨w.heap.size + 1, 8, none⟩ (.slice A1 (min n1 40) q1)).setCell ⟨w.heap.size + 1, 9, none⟩ (.slice A2 (min n2 40) q2)).setCell ⟨w.heap.size + 1, 10, none⟩ (.slice A3 (min n3 40) q3)) = V at *
        obtain ⟨r0, r1, r2, r3, r4, r5, r6, r7, r8, r9, r10⟩ := (Bx.b11 (HF.out.held 0 rfl)).1
        exact bodyPost_ret (v := .agg #[.int .i64 mC, .int .i64 mR, .int .i64 mS, .int .i64 mD, .int .i64 mV, .int .i64 mN, .int .i64 mQ, .int .i64 z, .slice A1 (min n1 40) q1, .slice A2 (min n2 40) q2, .slice A3 (min n3 40) q3]) (by simp [results, Try.results4, go_sem, r0, r1, r2, r3, r4, r5, r6, r7, r8, r9, r10]) rfl ⟨rfl, HF.out.bel⟩
end Go.Proofs.Ytljaahemlcaffaa
namespace Go.Proofs.Ytljaahemlcaffaa
open Go.RowKit Pz Sp
set_option linter.unusedVariables false
set_option linter.unusedSimpArgs false

theorem RdB.take {W : World} {B : Nat} {A : Option Addr} {l : List Bn} (h : RdB W B A l) (n : Nat) : RdB W B A (l.take n) := fun j x hx => h j x (by
  rw [List.getElem?_take] at hx
  split at hx
  · exact hx
  · cases hx)
theorem RdC.take {W : World} {B : Nat} {A : Option Addr} {l : List Cn} (h : RdC W B A l) (n : Nat) : RdC W B A (l.take n) := fun j x hx => h j x (by
  rw [List.getElem?_take] at hx
  split at hx
  · exact hx
  · cases hx)
/-- what a law is given -/
structure Given (w : World) (A1 A2 A3 : Option Addr) (q1 q2 q3 : Nat) (own near : List Bn) (cs : List Cn) : Prop where
  r1 : RdB w w.heap.size A1 own
  r2 : RdB w w.heap.size A2 near
  r3 : RdC w w.heap.size A3 cs
  c1 : own.length ≤ q1 ∧ q1 ≤ 140737488351232
  c2 : near.length ≤ q2 ∧ q2 ≤ 140737488351232
  c3 : cs.length ≤ q3 ∧ q3 ≤ 140737488351232
  f1 : ∀ b ∈ own, b.Fits
  f2 : ∀ b ∈ near, b.Fits
  f3 : ∀ c ∈ cs, CFit c
theorem Given.hand {w : World} {A1 A2 A3 : Option Addr} {q1 q2 q3 : Nat} {own near : List Bn} {cs : List Cn} (h : Given w A1 A2 A3 q1 q2 q3 own near cs) : Hand w A1 A2 A3 (own.take 40) (near.take 40) (cs.take 40) :=
  ⟨h.r1.take 40, h.r2.take 40, h.r3.take 40, by rw [List.length_take]; omega, by rw [List.length_take]; omega, by rw [List.length_take]; omega, fun b hb => h.f1 b (List.mem_of_mem_take hb), fun b hb => h.f2 b (List.mem_of_mem_take hb), fun b hb => h.f3 b (List.mem_of_mem_take hb)⟩
theorem sep_map' {w W V : World} {L : List Piece} (h : Sep w L W) (hb : Below W.heap.size W V) {b : Nat} {o : Obj} (ho : V.heap[b]? = some o) (hl : W.heap.size ≤ b) : Sep w (box b o :: L) V :=
  h.add (P := box b o) (G := fun k => k = b) hb ⟨ho, fun k => Iff.rfl⟩ fun k hk => by rw [hk]; exact hl
/-- a result of nothing -/
def E3P : Og.Ph := fun v _ => ∃ (B1 B2 B3 : Option Addr) (d1 d2 d3 : Nat), v = .agg #[.slice B1 0 d1, .slice B2 0 d2, .slice B3 0 d3]
theorem e3_lasts : Og.Lasts grows E3P := fun _ _ _ h _ => h
theorem e3_noBool : Og.NoBool E3P := fun _ _ ⟨_, _, _, _, _, _, h⟩ => by cases h
set_option maxHeartbeats 8000000 in
set_option maxRecDepth 100000 in
theorem law_none (K : TkCt) (w : World) (c0C c0R c0S c0D c0V c0N c0Q z : Int) (A1 A2 A3 : Option Addr) (q1 q2 q3 : Nat) (own near : List Bn) (cs : List Cn) (hG : Given w A1 A2 A3 q1 q2 q3 own near cs) (hz : Fit z) :
    Calls Try.prog 3 #[.agg #[.int .i64 c0C, .int .i64 c0R, .int .i64 c0S, .int .i64 c0D, .int .i64 c0V, .int .i64 c0N, .int .i64 c0Q, .int .i64 z, .slice A1 own.length q1, .slice A2 near.length q2, .slice A3 cs.length q3]] w fun e w' => e = .returned (.bool true) ∧ Below w.heap.size w w' := by
  have HD := Lib.hid fun V (hV : Below w.heap.size w V) => hG.hand.below hV
  have FW : Hid (∀ V, Calls Try.prog 4 #[.agg #[.int .i64 c0C, .int .i64 c0R, .int .i64 c0S, .int .i64 c0D, .int .i64 c0V, .int .i64 c0N, .int .i64 c0Q, .int .i64 z, .slice A1 own.length q1, .slice A2 near.length q2, .slice A3 cs.length q3]] V fun e V' => e = .returned (.agg #[.int .i64 (Zn.mC c0C), .int .i64 (Zn.mC c0R), .int .i64 (Zn.mS c0S), .int .i64 (Zn.mD c0S c0D), .int .i64 (Zn.mD c0S c0V), .int .i64 (Zn.mN c0N), .int .i64 (Zn.mQ c0Q), .int .i64 z, .slice A1 (own.take 40).length q1, .slice A2 (near.take 40).length q2, .slice A3 (cs.take 40).length q3]) ∧ Below V.heap.size V V') := Lib.hid fun V => by
    have := few15_any c0C c0R c0S c0D c0V c0N c0Q z (A1 := A1) (A2 := A2) (A3 := A3) hG.c1 hG.c2 hG.c3 V
    rw [List.length_take, List.length_take, List.length_take, Nat.min_comm 40, Nat.min_comm 40, Nat.min_comm 40]
    exact this
  have ok := Zn.may_ok c0C c0R c0S c0D c0V
  have okb := Zn.may_okB c0C c0R c0S c0D c0V c0N c0Q
  have AW := Lib.hid K.awake
  generalize (Zn.mC c0C) = mC at *
  generalize (Zn.mC c0R) = mR at *
  generalize (Zn.mD c0S c0D) = mD at *
  generalize (Zn.mD c0S c0V) = mV at *
  generalize (Zn.mS c0S) = mS at *
  generalize (Zn.mN c0N) = mN at *
  generalize (Zn.mQ c0Q) = mQ at *
  have NW : Hid (∀ L W, Sep w L W → Calls Try.prog 5 #[.agg #[.int .i64 mC, .int .i64 mR, .int .i64 mS, .int .i64 mD, .int .i64 mV, .int .i64 mN, .int .i64 mQ]] W fun e W' => ∃ q, e = .returned (.tuple #[.pointer (some ⟨q, 0, none⟩), .int .i64 0]) ∧ Sep w (box q (.cells #[.int .i64 mC, .int .i64 mR, .int .i64 mS, .int .i64 mD, .int .i64 mV, .int .i64 mN, .int .i64 mQ] 45) :: L) W') := Lib.hid fun L W hW => (new_yes mC mR mS mD mV mN mQ W okb).mono fun e W' ⟨q, a, b, c, d⟩ => ⟨q, a, sep_map' hW d c b⟩
  clear hG okb
  generalize own.length = n1 at *
  generalize near.length = n2 at *
  generalize cs.length = n3 at *
  generalize own.take 40 = x1 at *
  generalize near.take 40 = x2 at *
  generalize cs.take 40 = x3 at *
  have SMN : Hid (∀ (V : World) (B1 B2 B3 : Option Addr) (d1 d2 d3 : Nat), Calls Try.prog 8 #[.agg #[.slice B1 0 d1, .slice B2 0 d2, .slice B3 0 d3], .agg #[.slice none 0 0, .slice none 0 0, .slice none 0 0]] V fun e V' => e = .returned (.bool true) ∧ Below V.heap.size V V') := Lib.hid fun V B1 B2 B3 d1 d2 d3 => same_res (r := ([], [], [])) (RdB.nil _ _ _) (RdB.nil _ _ _) (RdI3.nil _ _ _) (RdB.nil _ _ _) (RdB.nil _ _ _) (RdI3.nil _ _ _) (by simp) (by simp) (by simp)
  have NL : Hid (∀ V, Below w.heap.size w V → Calls Try.prog 6 #[.pointer none, .int .i64 z, .slice A1 x1.length q1, .slice A2 x2.length q2, .slice A3 x3.length q3] V fun e V' => ∃ (B1 B2 B3 : Option Addr) (d1 d2 d3 : Nat), e = .returned (.agg #[.slice B1 0 d1, .slice B2 0 d2, .slice B3 0 d3]) ∧ Below V.heap.size V V') := Lib.hid fun V hV => (K.nil z V A1 A2 A3 q1 q2 q3 x1 x2 x3 (HD.out V hV)).mono fun e V' ⟨B1, B2, B3, d1, d2, d3, h1, _, h2⟩ => ⟨B1, B2, B3, d1, d2, d3, h1, h2⟩
  have hcr := Zn.mul_bd ok
  have GO : ∀ y : Int, Fit y → ¬ (-1 ≤ y ∧ y < mC * mR) → ∀ V q, Below w.heap.size w V → MapAt V q mC mR mS mD mV mN mQ → Calls Try.prog 6 #[.pointer (some ⟨q, 0, none⟩), .int .i64 y, .slice A1 x1.length q1, .slice A2 x2.length q2, .slice A3 x3.length q3] V fun e V' => ∃ (B1 B2 B3 : Option Addr) (d1 d2 d3 : Nat), e = .returned (.agg #[.slice B1 0 d1, .slice B2 0 d2, .slice B3 0 d3]) ∧ Below V.heap.size V V' := fun y hy hn V q hV hq => by
    have := K.run mC mR mS mD mV mN mQ y V q A1 A2 A3 q1 q2 q3 x1 x2 x3 hq ok hy (HD.out V hV) (.inr hn)
    unfold Tk.run at this
    rw [if_neg hn] at this
    exact this.mono fun e V' ⟨B1, B2, B3, d1, d2, d3, h1, _, h2⟩ => ⟨B1, B2, B3, d1, d2, d3, h1, h2⟩
  have OUT := Lib.hid (GO (mC * mR) (by unfold Fit; omega) (by omega))
  have LOW := Lib.hid (GO (-2) (by unfold Fit; omega) (by omega))
  have CO := Lib.hid fun V q (h : MapAt V q mC mR mS mD mV mN mQ) => count_any q mC mR mS mD mV mN mQ V h ok
  have b51 : ∀ V : World, (Instr.build 39 #[]).run Try.prog V = .ok (.agg #[.slice none 0 0, .slice none 0 0, .slice none 0 0]) V := fun V => by kernel_rfl
  clear K GO hcr HD ok hz
  have H0 : Hid (Sep w [box w.heap.size (.cells #[.int .i64 c0C, .int .i64 c0R, .int .i64 c0S, .int .i64 c0D, .int .i64 c0V, .int .i64 c0N, .int .i64 c0Q, .int .i64 z, .slice A1 n1 q1, .slice A2 n2 q2, .slice A3 n3 q3] 27)] (w.alloc (.cells #[.int .i64 c0C, .int .i64 c0R, .int .i64 c0S, .int .i64 c0D, .int .i64 c0V, .int .i64 c0N, .int .i64 c0Q, .int .i64 z, .slice A1 n1 q1, .slice A2 n2 q2, .slice A3 n3 q3] 27))) := Lib.hid (sep_box (sep_new w) _)
  go_enter Try.func3, Try.ntmps3
  go_upto_region 1 with fail
  generalize w.alloc (.cells #[.int .i64 c0C, .int .i64 c0R, .int .i64 c0S, .int .i64 c0D, .int .i64 c0V, .int .i64 c0N, .int .i64 c0Q, .int .i64 z, .slice A1 n1 q1, .slice A2 n2 q2, .slice A3 n3 q3] 27) = w0 at *
  obtain ⟨⟨k0, k1, k2, k3, k4, k5, k6, k7, k8, k9, k10⟩, ⟨f0, f1, f2, f3, f4, f5, f6, f7, f8, f9, f10⟩⟩ := Bx.b11 (H0.out.held 0 rfl)
  go_upto_region 2 with (go_at_call 4; with_reducible refine (FW.out _).mono ?_; rintro e w1 ⟨rfl, b1⟩; clear FW k0 k1 k2 k3 k4 k5 k6 k7 k8 k9 k10 f0 f1 f2 f3 f4 f5 f6 f7 f8 f9 f10; have H1 := Lib.hid (H0.out.below b1); clear H0 b1; obtain ⟨⟨k0, k1, k2, k3, k4, k5, k6, k7, k8, k9, k10⟩, ⟨f0, f1, f2, f3, f4, f5, f6, f7, f8, f9, f10⟩⟩ := Bx.b11 (H1.out.held 0 rfl))
  have HS := Lib.hid (H1.out.set11 (.int .i64 mC) (.int .i64 mR) (.int .i64 mS) (.int .i64 mD) (.int .i64 mV) (.int .i64 mN) (.int .i64 mQ) (.int .i64 z) (.slice A1 x1.length q1) (.slice A2 x2.length q2) (.slice A3 x3.length q3))
  clear k0 k1 k2 k3 k4 k5 k6 k7 k8 k9 k10 f0 f1 f2 f3 f4 f5 f6 f7 f8 f9 f10 H1
  generalize (((((((((((w1.setCell ⟨w.heap.size, 0, none⟩ (.int .i64 mC)).setCell ⟨w.heap.size, 1, none⟩ (.int .i64 mR)).setCell ⟨w.heap.size, 2, none⟩ (.int .i64 mS)).setCell ⟨w.heap.size, 3, none⟩ (.int .i64 mD)).setCell ⟨w.heap.size, 4, none⟩ (.int .i64 mV)).setCell ⟨w.heap.size, 5, none⟩ (.int .i64 mN)).setCell ⟨w.heap.size, 6, none⟩ (.int .i64 mQ)).setCell ⟨w.heap.size, 7, none⟩ (.int .i64 z)).setCell ⟨w.heap.size, 8, none⟩ (.slice A1 x1.length q1)).setCell ⟨w.heap.size, 9, none⟩ (.slice A2 x2.length q2)).setCell ⟨w.heap.size, 10, none⟩ (.slice A3 x3.length q3)) = w2 at *
  obtain ⟨⟨k0, k1, k2, k3, k4, k5, k6, k7, k8, k9, k10⟩, _⟩ := Bx.b11 (HS.out.held 0 rfl)
  go_upto_region 3 with (go_at_call 5; with_reducible refine (NW.out _ _ HS.out).mono ?_; rintro e w3 ⟨q, rfl, h3⟩; clear NW HS k0 k1 k2 k3 k4 k5 k6 k7 k8 k9 k10; have H3 := Lib.hid h3; clear h3; obtain ⟨⟨k0, k1, k2, k3, k4, k5, k6, k7, k8, k9, k10⟩, _⟩ := Bx.b11 (H3.out.held 1 rfl))
  go_upto_region 4 with (go_at_call 6; with_reducible refine (NL.out _ H3.out.bel).mono ?_; rintro e w4 ⟨B1, B2, B3, d1, d2, d3, rfl, b4⟩; clear NL k0 k1 k2 k3 k4 k5 k6 k7 k8 k9 k10; have H4 := Lib.hid (sep_box (H3.out.below b4) (.cells #[.slice B1 0 d1, .slice B2 0 d2, .slice B3 0 d3] 35)); clear H3 b4)
  have t5 : w4.heap.size < (w4.alloc (.cells #[.slice B1 0 d1, .slice B2 0 d2, .slice B3 0 d3] 35)).heap.size := Bx.lt (H4.out.held 0 rfl)
  generalize w4.alloc (.cells #[.slice B1 0 d1, .slice B2 0 d2, .slice B3 0 d3] 35) = w5 at *
  obtain ⟨⟨k0, k1, k2, k3, k4, k5, k6, k7, k8, k9, k10⟩, _⟩ := Bx.b11 (H4.out.held 2 rfl)
  have t0 : w.heap.size < w5.heap.size := Bx.lt (H4.out.held 2 rfl)
  have OU : Hid (∀ p : Lat grows w5, Calls Try.prog 6 #[.pointer (some ⟨q, 0, none⟩), .int .i64 (mC * mR), .slice A1 x1.length q1, .slice A2 x2.length q2, .slice A3 x3.length q3] p.W fun e W' => ∃ v, e = .returned v ∧ grows.r p.W W' ∧ E3P v W') := Lib.hid fun p => (OUT.out p.W q (H4.out.bel.trans ((zlat_below p).mono H4.out.bel.size)) (MapAt.below (H4.out.held 1 rfl) (zlat_below p))).mono fun e V' ⟨B1, B2, B3, d1, d2, d3, h1, h2⟩ => ⟨_, h1, h2, B1, B2, B3, d1, d2, d3, rfl⟩
  have CN : Hid (∀ p : Lat grows w5, Calls Try.prog 7 #[.pointer (some ⟨q, 0, none⟩)] p.W fun e W' => e = .returned (.int .i64 (mC * mR)) ∧ Below p.W.heap.size p.W W') := Lib.hid fun p => CO.out p.W q (MapAt.below (H4.out.held 1 rfl) (zlat_below p))
  refine Og.grow 11 (by kernel_rfl) (by kernel_rfl) fun hc hf => ?_
  simp only [List.take_succ_cons, List.take_zero, List.drop_succ_cons, List.drop_zero]
  iterate 2 (refine Og.det [] rfl (fun J hJ => ?_); go_simp; refine hJ _ _ ?_; clear hJ J)
  refine Og.det [] rfl (fun J hJ => ?_)
  go_simp
  with_reducible refine ⟨_, fun p => Og.lays (CN.out p), hJ _ _ ?_⟩
  clear hJ J
  iterate 6 (refine Og.det [] rfl (fun J hJ => ?_); go_simp; refine hJ _ _ ?_; clear hJ J)
  refine Og.such 34 E3P [] rfl e3_lasts e3_noBool (fun J hJ => ?_)
  go_simp
  refine ⟨fun p => OU.out p, hJ _ _ ?_⟩
  clear hJ J
  refine Og.such 6 (Og.Box w5.heap.size #[.slice none 0 0, .slice none 0 0, .slice none 0 0] 35) [] rfl (Og.Box.lasts _ _ _) (Og.Box.noBool _ _ _) (fun J hJ => ?_)
  go_simp
  refine ⟨fun p => Og.Box.new p.W _ p.h.size _ _, hJ _ _ ?_⟩
  clear hJ J hc hf
  refine Og.fin fun W hW => ?_
  simp only [Og.opened_cons, Og.opened_nil]
  rintro _ ⟨b6, rfl, hb6, hl6, hv6⟩ _ ⟨C1, C2, C3, e1, e2, e3, rfl⟩
  have H6 := sep_map' H4.out hW hv6 hb6
  clear hW H4 OU CN OUT CO t5 t0 k0 k1 k2 k3 k4 k5 k6 k7 k8 k9 k10
  obtain ⟨_, ⟨f0, f1, f2⟩⟩ := Bx.b3 hv6
  have HX := ((H6.cell (o := 0) (.slice C1 0 e1)).cell (o := 1) (.slice C2 0 e2)).cell (o := 2) (.slice C3 0 e3)
  simp only [List.setIfInBounds_toArray, List.set_cons_succ, List.set_cons_zero] at HX
  clear H6 hv6 hb6 hl6
  replace HX := Lib.hid HX
  go_upto_region 5 with fail
  generalize ((W.setCell ⟨b6, 0, none⟩ (.slice C1 0 e1)).setCell ⟨b6, 1, none⟩ (.slice C2 0 e2)).setCell ⟨b6, 2, none⟩ (.slice C3 0 e3) = w6 at *
  clear f0 f1 f2
  obtain ⟨⟨k0, k1, k2, k3, k4, k5, k6, k7, k8, k9, k10⟩, _⟩ := Bx.b11 (HX.out.held 3 rfl)
  have HMq : Hid (MapAt w6 q mC mR mS mD mV mN mQ) := Lib.hid (HX.out.held 2 rfl)
  go_upto_region 6 with (go_at_call 6; with_reducible refine (LOW.out _ q HX.out.bel HMq.out).mono ?_; rintro e w7 ⟨D1, D2, D3, g1, g2, g3, rfl, b7⟩; clear LOW HMq k0 k1 k2 k3 k4 k5 k6 k7 k8 k9 k10; have H7 := Lib.hid (sep_box (HX.out.below b7) (.cells #[.slice D1 0 g1, .slice D2 0 g2, .slice D3 0 g3] 35)); clear HX b7)
  generalize w7.alloc (.cells #[.slice D1 0 g1, .slice D2 0 g2, .slice D3 0 g3] 35) = w8 at *
  have SA := Lib.hid fun V => SMN.out V B1 B2 B3 d1 d2 d3
  have SB := Lib.hid fun V => SMN.out V C1 C2 C3 e1 e2 e3
  have SC := Lib.hid fun V => SMN.out V D1 D2 D3 g1 g2 g3
  clear SMN
  obtain ⟨⟨k0, k1, k2⟩, _⟩ := Bx.b3 (H7.out.held 2 rfl)
  go_wp2_with (first
    | (go_at_call 8; with_reducible refine (SA.out _).mono ?_; rintro e w9 ⟨rfl, b9⟩; clear SA k0 k1 k2; have H8 := Lib.hid (H7.out.below b9); clear H7 b9; obtain ⟨⟨k0, k1, k2⟩, _⟩ := Bx.b3 (H8.out.held 1 rfl))
    | (go_at_call 8; with_reducible refine (SB.out _).mono ?_; rintro e w10 ⟨rfl, b10⟩; clear SB k0 k1 k2; have H9 := Lib.hid (H8.out.below b10); clear H8 b10; obtain ⟨⟨k0, k1, k2⟩, _⟩ := Bx.b3 (H9.out.held 0 rfl))
    | (go_at_call 8; with_reducible refine (SC.out _).mono ?_; rintro e w11 ⟨rfl, b11⟩; clear SC k0 k1 k2; have H10 := Lib.hid (H9.out.below b11); clear H9 b11)
    | (go_at_call 9; with_reducible refine (AW.out _).mono ?_; rintro e w12 ⟨rfl, b12⟩; clear AW; have H11 := Lib.hid (H10.out.below b12).bel; clear H10 b12))
  go_ret
  exact ⟨rfl, H11.out⟩
end Go.Proofs.Ytljaahemlcaffaa
