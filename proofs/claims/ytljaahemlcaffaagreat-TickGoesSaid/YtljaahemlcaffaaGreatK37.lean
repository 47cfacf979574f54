/- Not too many of anything. Written by wip/tools/gentk.py. Of no map, and of a zone that there is not, nothing is left. Written by wip/tools/gentk.py. -/
import Derived.Test.YtljaahemlcaffaaGreatK32
import Derived.Deep.CutBlock
import Derived.Test.YtljaahemlcaffaaGreatK01
namespace Go.Proofs.YtljaahemlcaffaaGreat
open Go.RowKit Pz Sp
set_option linter.unusedVariables false
set_option linter.unusedSimpArgs false


set_option maxHeartbeats 8000000 in
set_option maxRecDepth 100000 in
theorem few15_any (c0C c0R c0S c0D c0V c0N c0Q z : Int) {A1 A2 A3 : Option Addr} {n1 n2 n3 q1 q2 q3 : Nat} (h1 : n1 ≤ q1 ∧ q1 ≤ 140737488351232) (h2 : n2 ≤ q2 ∧ q2 ≤ 140737488351232) (h3 : n3 ≤ q3 ∧ q3 ≤ 140737488351232) (w : World) :
    Calls Tryz.prog 18 #[.agg #[.int .i64 c0C, .int .i64 c0R, .int .i64 c0S, .int .i64 c0D, .int .i64 c0V, .int .i64 c0N, .int .i64 c0Q, .int .i64 z, .slice A1 n1 q1, .slice A2 n2 q2, .slice A3 n3 q3]] w fun e w' => e = .returned (.agg #[.int .i64 (Zn.mC c0C), .int .i64 (Zn.mC c0R), .int .i64 (Zn.mS c0S), .int .i64 (Zn.mD c0S c0D), .int .i64 (Zn.mD c0S c0V), .int .i64 (Zn.mN c0N), .int .i64 (Zn.mQ c0Q), .int .i64 z, .slice A1 (min n1 40) q1, .slice A2 (min n2 40) q2, .slice A3 (min n3 40) q3]) ∧ Below w.heap.size w w' := by
  have MY := Lib.hid fun W => zmay_any c0C c0R c0S c0D c0V c0N c0Q W
  generalize (Zn.mC c0C) = mC at *
  generalize (Zn.mC c0R) = mR at *
  generalize (Zn.mD c0S c0D) = mD at *
  generalize (Zn.mD c0S c0V) = mV at *
  generalize (Zn.mS c0S) = mS at *
  generalize (Zn.mN c0N) = mN at *
  generalize (Zn.mQ c0Q) = mQ at *
  have H0 : Hid (Sep w [box w.heap.size (.cells #[.int .i64 c0C, .int .i64 c0R, .int .i64 c0S, .int .i64 c0D, .int .i64 c0V, .int .i64 c0N, .int .i64 c0Q, .int .i64 z, .slice A1 n1 q1, .slice A2 n2 q2, .slice A3 n3 q3] 48), box (w.heap.size + 1) (.cells #[.int .i64 0, .int .i64 0, .int .i64 0, .int .i64 0, .int .i64 0, .int .i64 0, .int .i64 0, .int .i64 0, .slice none 0 0, .slice none 0 0, .slice none 0 0] 48)] ((w.alloc (.cells #[.int .i64 c0C, .int .i64 c0R, .int .i64 c0S, .int .i64 c0D, .int .i64 c0V, .int .i64 c0N, .int .i64 c0Q, .int .i64 z, .slice A1 n1 q1, .slice A2 n2 q2, .slice A3 n3 q3] 48)).alloc (.cells #[.int .i64 0, .int .i64 0, .int .i64 0, .int .i64 0, .int .i64 0, .int .i64 0, .int .i64 0, .int .i64 0, .slice none 0 0, .slice none 0 0, .slice none 0 0] 48))) := Lib.hid (by
    have := (sep_box (sep_box (sep_new w) (.cells #[.int .i64 c0C, .int .i64 c0R, .int .i64 c0S, .int .i64 c0D, .int .i64 c0V, .int .i64 c0N, .int .i64 c0Q, .int .i64 z, .slice A1 n1 q1, .slice A2 n2 q2, .slice A3 n3 q3] 48)) (.cells #[.int .i64 0, .int .i64 0, .int .i64 0, .int .i64 0, .int .i64 0, .int .i64 0, .int .i64 0, .int .i64 0, .slice none 0 0, .slice none 0 0, .slice none 0 0] 48)).pull 1 rfl
    rw [size1] at this
    exact this)
  go_enter Tryz.func18, Tryz.ntmps18
  go_upto_region 1 with fail
  generalize (w.alloc (.cells #[.int .i64 c0C, .int .i64 c0R, .int .i64 c0S, .int .i64 c0D, .int .i64 c0V, .int .i64 c0N, .int .i64 c0Q, .int .i64 z, .slice A1 n1 q1, .slice A2 n2 q2, .slice A3 n3 q3] 48)).alloc (.cells #[.int .i64 0, .int .i64 0, .int .i64 0, .int .i64 0, .int .i64 0, .int .i64 0, .int .i64 0, .int .i64 0, .slice none 0 0, .slice none 0 0, .slice none 0 0] 48) = w0 at *
  obtain ⟨⟨k0, k1, k2, k3, k4, k5, k6, k7, k8, k9, k10⟩, ⟨f0, f1, f2, f3, f4, f5, f6, f7, f8, f9, f10⟩⟩ := Bx.b11 (H0.out.held 0 rfl)
  obtain ⟨_, ⟨r0, r1, r2, r3, r4, r5, r6, r7, r8, r9, r10⟩⟩ := Bx.b11 (H0.out.held 1 rfl)
  go_upto_region 2 with (go_at_call 9; with_reducible refine (MY.out _).mono ?_; rintro e w1 ⟨rfl, b1⟩; clear MY k0 k1 k2 k3 k4 k5 k6 k7 k8 k9 k10 f0 f1 f2 f3 f4 f5 f6 f7 f8 f9 f10 r0 r1 r2 r3 r4 r5 r6 r7 r8 r9 r10; have H1 := Lib.hid (H0.out.below b1); clear H0 b1; obtain ⟨⟨k0, k1, k2, k3, k4, k5, k6, k7, k8, k9, k10⟩, ⟨f0, f1, f2, f3, f4, f5, f6, f7, f8, f9, f10⟩⟩ := Bx.b11 (H1.out.held 0 rfl))
  have HS := (((((((H1.out.cell (o := 0) (.int .i64 mC)).cell (o := 1) (.int .i64 mR)).cell (o := 2) (.int .i64 mS)).cell (o := 3) (.int .i64 mD)).cell (o := 4) (.int .i64 mV)).cell (o := 5) (.int .i64 mN)).cell (o := 6) (.int .i64 mQ))
  simp only [List.setIfInBounds_toArray, List.set_cons_succ, List.set_cons_zero] at HS
  replace HS := Lib.hid HS
  clear k0 k1 k2 k3 k4 k5 k6 k7 k8 k9 k10 f0 f1 f2 f3 f4 f5 f6 f7 f8 f9 f10 H1
  generalize (((((((w1.setCell ⟨w.heap.size, 0, none⟩ (.int .i64 mC)).setCell ⟨w.heap.size, 1, none⟩ (.int .i64 mR)).setCell ⟨w.heap.size, 2, none⟩ (.int .i64 mS)).setCell ⟨w.heap.size, 3, none⟩ (.int .i64 mD)).setCell ⟨w.heap.size, 4, none⟩ (.int .i64 mV)).setCell ⟨w.heap.size, 5, none⟩ (.int .i64 mN)).setCell ⟨w.heap.size, 6, none⟩ (.int .i64 mQ)) = w2 at *
  obtain ⟨⟨k0, k1, k2, k3, k4, k5, k6, k7, k8, k9, k10⟩, ⟨f0, f1, f2, f3, f4, f5, f6, f7, f8, f9, f10⟩⟩ := Bx.b11 (HS.out.held 0 rfl)
  go_upto_if 10 with fail
  go_cut [] (fun wx => Hid (Sep w [box w.heap.size (.cells #[.int .i64 mC, .int .i64 mR, .int .i64 mS, .int .i64 mD, .int .i64 mV, .int .i64 mN, .int .i64 mQ, .int .i64 z, .slice A1 (min n1 40) q1, .slice A2 n2 q2, .slice A3 n3 q3] 48), box (w.heap.size + 1) (.cells #[.int .i64 0, .int .i64 0, .int .i64 0, .int .i64 0, .int .i64 0, .int .i64 0, .int .i64 0, .int .i64 0, .slice none 0 0, .slice none 0 0, .slice none 0 0] 48)] wx))
  case first =>
    by_cases g1 : 40 < n1
    · have t1 : (n1 : Int) > 40 := by omega
      have t2 : 40 ≤ n1 := by omega
      have HX := HS.out.cell (o := 8) (.slice A1 40 q1)
      simp only [List.setIfInBounds_toArray, List.set_cons_succ, List.set_cons_zero] at HX
      replace HX := Lib.hid HX
      have e : min n1 40 = 40 := by omega
      go_wp2
      go_meet
      case rel =>
        rw [e]
        exact HX
    · have t1 : ¬ (n1 : Int) > 40 := by omega
      have e : min n1 40 = n1 := by omega
      go_wp2
      go_meet
      case rel =>
        rw [e]
        exact HS
  case rest =>
    clear HS k0 k1 k2 k3 k4 k5 k6 k7 k8 k9 k10 f0 f1 f2 f3 f4 f5 f6 f7 f8 f9 f10
    have HS : Hid (Sep w [box w.heap.size (.cells #[.int .i64 mC, .int .i64 mR, .int .i64 mS, .int .i64 mD, .int .i64 mV, .int .i64 mN, .int .i64 mQ, .int .i64 z, .slice A1 (min n1 40) q1, .slice A2 n2 q2, .slice A3 n3 q3] 48), box (w.heap.size + 1) (.cells #[.int .i64 0, .int .i64 0, .int .i64 0, .int .i64 0, .int .i64 0, .int .i64 0, .int .i64 0, .int .i64 0, .slice none 0 0, .slice none 0 0, .slice none 0 0] 48)] wc) := hcut
    clear hcut
    obtain ⟨⟨k0, k1, k2, k3, k4, k5, k6, k7, k8, k9, k10⟩, ⟨f0, f1, f2, f3, f4, f5, f6, f7, f8, f9, f10⟩⟩ := Bx.b11 (HS.out.held 0 rfl)
    go_upto_if 18 with fail
    go_cut [] (fun wx => Hid (Sep w [box w.heap.size (.cells #[.int .i64 mC, .int .i64 mR, .int .i64 mS, .int .i64 mD, .int .i64 mV, .int .i64 mN, .int .i64 mQ, .int .i64 z, .slice A1 (min n1 40) q1, .slice A2 (min n2 40) q2, .slice A3 n3 q3] 48), box (w.heap.size + 1) (.cells #[.int .i64 0, .int .i64 0, .int .i64 0, .int .i64 0, .int .i64 0, .int .i64 0, .int .i64 0, .int .i64 0, .slice none 0 0, .slice none 0 0, .slice none 0 0] 48)] wx))
    case first =>
      by_cases g1 : 40 < n2
      · have t1 : (n2 : Int) > 40 := by omega
        have t2 : 40 ≤ n2 := by omega
        have HX := HS.out.cell (o := 9) (.slice A2 40 q2)
        simp only [List.setIfInBounds_toArray, List.set_cons_succ, List.set_cons_zero] at HX
        replace HX := Lib.hid HX
        have e : min n2 40 = 40 := by omega
        go_wp2
        go_meet
        case rel =>
          rw [e]
          exact HX
      · have t1 : ¬ (n2 : Int) > 40 := by omega
        have e : min n2 40 = n2 := by omega
        go_wp2
        go_meet
        case rel =>
          rw [e]
          exact HS
    case rest =>
      clear HS k0 k1 k2 k3 k4 k5 k6 k7 k8 k9 k10 f0 f1 f2 f3 f4 f5 f6 f7 f8 f9 f10
      have HS : Hid (Sep w [box w.heap.size (.cells #[.int .i64 mC, .int .i64 mR, .int .i64 mS, .int .i64 mD, .int .i64 mV, .int .i64 mN, .int .i64 mQ, .int .i64 z, .slice A1 (min n1 40) q1, .slice A2 (min n2 40) q2, .slice A3 n3 q3] 48), box (w.heap.size + 1) (.cells #[.int .i64 0, .int .i64 0, .int .i64 0, .int .i64 0, .int .i64 0, .int .i64 0, .int .i64 0, .int .i64 0, .slice none 0 0, .slice none 0 0, .slice none 0 0] 48)] wc) := hcut
      clear hcut
      obtain ⟨⟨k0, k1, k2, k3, k4, k5, k6, k7, k8, k9, k10⟩, ⟨f0, f1, f2, f3, f4, f5, f6, f7, f8, f9, f10⟩⟩ := Bx.b11 (HS.out.held 0 rfl)
      go_upto_if 26 with fail
      go_cut [] (fun wx => Hid (Sep w [box w.heap.size (.cells #[.int .i64 mC, .int .i64 mR, .int .i64 mS, .int .i64 mD, .int .i64 mV, .int .i64 mN, .int .i64 mQ, .int .i64 z, .slice A1 (min n1 40) q1, .slice A2 (min n2 40) q2, .slice A3 (min n3 40) q3] 48), box (w.heap.size + 1) (.cells #[.int .i64 0, .int .i64 0, .int .i64 0, .int .i64 0, .int .i64 0, .int .i64 0, .int .i64 0, .int .i64 0, .slice none 0 0, .slice none 0 0, .slice none 0 0] 48)] wx))
      case first =>
        by_cases g1 : 40 < n3
        · have t1 : (n3 : Int) > 40 := by omega
          have t2 : 40 ≤ n3 := by omega
          have HX := HS.out.cell (o := 10) (.slice A3 40 q3)
          simp only [List.setIfInBounds_toArray, List.set_cons_succ, List.set_cons_zero] at HX
          replace HX := Lib.hid HX
          have e : min n3 40 = 40 := by omega
          go_wp2
          go_meet
          case rel =>
            rw [e]
            exact HX
        · have t1 : ¬ (n3 : Int) > 40 := by omega
          have e : min n3 40 = n3 := by omega
          go_wp2
          go_meet
          case rel =>
            rw [e]
            exact HS
      case rest =>
        clear HS k0 k1 k2 k3 k4 k5 k6 k7 k8 k9 k10 f0 f1 f2 f3 f4 f5 f6 f7 f8 f9 f10
        have HS : Hid (Sep w [box w.heap.size (.cells #[.int .i64 mC, .int .i64 mR, .int .i64 mS, .int .i64 mD, .int .i64 mV, .int .i64 mN, .int .i64 mQ, .int .i64 z, .slice A1 (min n1 40) q1, .slice A2 (min n2 40) q2, .slice A3 (min n3 40) q3] 48), box (w.heap.size + 1) (.cells #[.int .i64 0, .int .i64 0, .int .i64 0, .int .i64 0, .int .i64 0, .int .i64 0, .int .i64 0, .int .i64 0, .slice none 0 0, .slice none 0 0, .slice none 0 0] 48)] wc) := hcut
        clear hcut
        obtain ⟨⟨k0, k1, k2, k3, k4, k5, k6, k7, k8, k9, k10⟩, ⟨f0, f1, f2, f3, f4, f5, f6, f7, f8, f9, f10⟩⟩ := Bx.b11 (HS.out.held 0 rfl)
        obtain ⟨_, ⟨r0, r1, r2, r3, r4, r5, r6, r7, r8, r9, r10⟩⟩ := Bx.b11 (HS.out.held 1 rfl)
        have HF := Lib.hid ((show Sep w [box (w.heap.size + 1) (.cells #[.int .i64 0, .int .i64 0, .int .i64 0, .int .i64 0, .int .i64 0, .int .i64 0, .int .i64 0, .int .i64 0, .slice none 0 0, .slice none 0 0, .slice none 0 0] 48), box w.heap.size (.cells #[.int .i64 mC, .int .i64 mR, .int .i64 mS, .int .i64 mD, .int .i64 mV, .int .i64 mN, .int .i64 mQ, .int .i64 z, .slice A1 (min n1 40) q1, .slice A2 (min n2 40) q2, .slice A3 (min n3 40) q3] 48)] wc from HS.out.pull 1 rfl).set11 (.int .i64 mC) (.int .i64 mR) (.int .i64 mS) (.int .i64 mD) (.int .i64 mV) (.int .i64 mN) (.int .i64 mQ) (.int .i64 z) (.slice A1 (min n1 40) q1) (.slice A2 (min n2 40) q2) (.slice A3 (min n3 40) q3))
        go_wp2
        generalize (((((((((((wc.setCell ⟨w.heap.size + 1, 0, none⟩ (.int .i64 mC)).setCell ⟨w.heap.size + 1, 1, none⟩ (.int .i64 mR)).setCell ⟨w.heap.size + 1, 2, none⟩ (.int .i64 mS)).setCell ⟨w.heap.size + 1, 3, none⟩ (.int .i64 mD)).setCell ⟨w.heap.size + 1, 4, none⟩ (.int .i64 mV)).setCell ⟨w.heap.size + 1, 5, none⟩ (.int .i64 mN)).setCell ⟨w.heap.size + 1, 6, none⟩ (.int .i64 mQ)).setCell ⟨w.heap.size + 1, 7, none⟩ (.int .i64 z)).setCell ⟨w.heap.size + 1, 8, none⟩ (.slice A1 (min n1 40) q1)).setCell ⟨w.heap.size + 1, 9, none⟩ (.slice A2 (min n2 40) q2)).setCell ⟨w.heap.size + 1, 10, none⟩ (.slice A3 (min n3 40) q3)) = V at *
        obtain ⟨r0, r1, r2, r3, r4, r5, r6, r7, r8, r9, r10⟩ := (Bx.b11 (HF.out.held 0 rfl)).1
        exact bodyPost_ret (v := .agg #[.int .i64 mC, .int .i64 mR, .int .i64 mS, .int .i64 mD, .int .i64 mV, .int .i64 mN, .int .i64 mQ, .int .i64 z, .slice A1 (min n1 40) q1, .slice A2 (min n2 40) q2, .slice A3 (min n3 40) q3]) (by simp [results, Tryz.results18, go_sem, r0, r1, r2, r3, r4, r5, r6, r7, r8, r9, r10]) rfl ⟨rfl, HF.out.bel⟩
end Go.Proofs.YtljaahemlcaffaaGreat
namespace Go.Proofs.YtljaahemlcaffaaGreat
open Go.RowKit Pz Sp
set_option linter.unusedVariables false
set_option linter.unusedSimpArgs false

theorem RdB.take {W : World} {B : Nat} {A : Option Addr} {l : List Bn} (h : RdB W B A l) (n : Nat) : RdB W B A (l.take n) := fun j x hx => h j x (by
  rw [List.getElem?_take] at hx
  split at hx
  · exact hx
  · cases hx)
theorem RdC.take {W : World} {B : Nat} {A : Option Addr} {l : List Cn} (h : RdC W B A l) (n : Nat) : RdC W B A (l.take n) := fun j x hx => h j x (by
  rw [List.getElem?_take] at hx
  split at hx
  · exact hx
  · cases hx)
/-- what a law is given -/
structure Given (w : World) (A1 A2 A3 : Option Addr) (q1 q2 q3 : Nat) (own near : List Bn) (cs : List Cn) : Prop where
  r1 : RdB w w.heap.size A1 own
  r2 : RdB w w.heap.size A2 near
  r3 : RdC w w.heap.size A3 cs
  c1 : own.length ≤ q1 ∧ q1 ≤ 140737488351232
  c2 : near.length ≤ q2 ∧ q2 ≤ 140737488351232
  c3 : cs.length ≤ q3 ∧ q3 ≤ 140737488351232
  f1 : ∀ b ∈ own, b.Fits
  f2 : ∀ b ∈ near, b.Fits
  f3 : ∀ c ∈ cs, CFit c
theorem Given.hand {w : World} {A1 A2 A3 : Option Addr} {q1 q2 q3 : Nat} {own near : List Bn} {cs : List Cn} (h : Given w A1 A2 A3 q1 q2 q3 own near cs) : Hand w A1 A2 A3 (own.take 40) (near.take 40) (cs.take 40) :=
  ⟨h.r1.take 40, h.r2.take 40, h.r3.take 40, by rw [List.length_take]; omega, by rw [List.length_take]; omega, by rw [List.length_take]; omega, fun b hb => h.f1 b (List.mem_of_mem_take hb), fun b hb => h.f2 b (List.mem_of_mem_take hb), fun b hb => h.f3 b (List.mem_of_mem_take hb)⟩
theorem sep_map' {w W V : World} {L : List Piece} (h : Sep w L W) (hb : Below W.heap.size W V) {b : Nat} {o : Obj} (ho : V.heap[b]? = some o) (hl : W.heap.size ≤ b) : Sep w (box b o :: L) V :=
  h.add (P := box b o) (G := fun k => k = b) hb ⟨ho, fun k => Iff.rfl⟩ fun k hk => by rw [hk]; exact hl
/-- a result of nothing -/
def E3P : Og.Ph := fun v _ => ∃ (B1 B2 B3 : Option Addr) (d1 d2 d3 : Nat), v = .agg #[.slice B1 0 d1, .slice B2 0 d2, .slice B3 0 d3]
theorem e3_lasts : Og.Lasts grows E3P := fun _ _ _ h _ => h
theorem e3_noBool : Og.NoBool E3P := fun _ _ ⟨_, _, _, _, _, _, h⟩ => by cases h
end Go.Proofs.YtljaahemlcaffaaGreat
