/- The code: something is done to each one that stands in a stage. -/
import Derived.Test.YtljaahemlcaffaaGreatK06
import Derived.Test.YtljaahemlcaffaaGreatK08
import Derived.Test.YtljaahemlcaffaaGreatK01
namespace Go.Proofs.YtljaahemlcaffaaGreat
open Go.RowKit Pz Sp
set_option linter.unusedVariables false
set_option linter.unusedSimpArgs false

/-- a function that is handed to each -/
structure DoAt (w : World) (L : List Piece) (f : Bn → Bn × Bool) (fn : Nat) (cb : Array Value) (l : List Bn) : Prop where
  ent : ∀ args W, (callFunc fn args).run Tryz.prog W = .ok (.enter fn args) W
  does : ∀ b ∈ l, ∀ W, Sep w L W → Calls Tryz.prog fn (#[b.val] ++ cb) W fun e V => e = .returned (.tuple #[(f b).1.val, .bool (f b).2]) ∧ Below W.heap.size W V
namespace Tk
/-- a row that is written over from its head while it is read -/
structure EaI (R l : List Bn) (f : Bn → Bn × Bool) (i : Nat) : Prop where
  len : R.length = l.length
  lo : R.take (kept f (l.take i)).length = kept f (l.take i)
  hi : R.drop i = l.drop i
theorem EaI.start (l : List Bn) (f : Bn → Bn × Bool) : EaI l l f 0 := ⟨rfl, rfl, rfl⟩
theorem EaI.at_ {R l : List Bn} {f : Bn → Bn × Bool} {i : Nat} (h : EaI R l f i) (hi : i < l.length) : R[i]? = some l[i] := by
  have e := congrArg (fun q => q[0]?) h.hi
  simp only [List.getElem?_drop, Nat.add_zero] at e
  rw [e, List.getElem?_eq_getElem hi]
theorem EaI.next {R l : List Bn} {f : Bn → Bn × Bool} {i : Nat} (h : EaI R l f i) : R.drop (i + 1) = l.drop (i + 1) := by
  rw [← List.drop_drop, ← List.drop_drop, h.hi]
theorem EaI.skip {R l : List Bn} {f : Bn → Bn × Bool} {i : Nat} (h : EaI R l f i) (hi : i < l.length) (hf : (f l[i]).2 = false) : EaI R l f (i + 1) :=
  ⟨h.len, by rw [kept_take hi, hf]; exact h.lo, h.next⟩
theorem EaI.lt {l : List Bn} {f : Bn → Bn × Bool} {i : Nat} (hi : i ≤ l.length) : (kept f (l.take i)).length ≤ i := by
  have := kept_len f (l.take i)
  rw [List.length_take] at this
  omega
theorem EaI.keep {R l : List Bn} {f : Bn → Bn × Bool} {i : Nat} (h : EaI R l f i) (hi : i < l.length) (hf : (f l[i]).2 = true) : EaI (R.set (kept f (l.take i)).length (f l[i]).1) l f (i + 1) := by
  have hk := EaI.lt (f := f) (Nat.le_of_lt hi)
  have e : kept f (l.take (i + 1)) = kept f (l.take i) ++ [(f l[i]).1] := by rw [kept_take hi, hf]; rfl
  have hiR : (kept f (l.take i)).length < R.length := by rw [h.len]; omega
  refine ⟨by rw [List.length_set, h.len], ?_, by rw [List.drop_set_of_lt (by omega), h.next]⟩
  rw [e, List.length_append, List.length_singleton, List.take_succ_eq_append_getElem (by rw [List.length_set]; exact hiR), List.take_set_of_le (Nat.le_refl _), List.getElem_set_self, h.lo]
theorem EaI.end_ {R l : List Bn} {f : Bn → Bn × Bool} (h : EaI R l f l.length) : R.take (kept f l).length = kept f l := by
  have := h.lo
  rwa [List.take_length] at this
end Tk
abbrev stO (q : Nat) (z : Int) (v1 v2 v3 : Value) : Obj := .cells #[.pointer (some ⟨q, 0, none⟩), v1, v2, v3, .int .i64 z] 73
theorem b_bn (b : Bn) (V : World) : (Instr.buildSlice 24 1 #[(0, b.val)]).run Tryz.prog V = .ok (.slice (some ⟨V.heap.size, 0, none⟩) 1 1) (V.alloc (.cells #[.int .i64 b.s, .int .i64 b.i, .int .i64 b.g, .int .i64 b.m, .int .i64 b.x, .int .i64 b.y, .int .i64 b.vx, .int .i64 b.vy, .int .i64 b.h, .int .i64 b.p, .int .i64 b.l] 42)) := by kernel_rfl
theorem b_id (s i g : Int) (V : World) : (Instr.buildSlice 33 1 #[(0, .agg #[.int .i64 s, .int .i64 i, .int .i64 g])]).run Tryz.prog V = .ok (.slice (some ⟨V.heap.size, 0, none⟩) 1 1) (V.alloc (.cells #[.int .i64 s, .int .i64 i, .int .i64 g] 40)) := by kernel_rfl
/-- of a row the first ones -/
theorem rw_take {α : Type} {enc : α → List Value} {T s : Nat} {W : World} {B g o n c k : Nat} {R : List α} (h : Rw enc T s W B (.slice (some ⟨g, o, none⟩) n c) R) (hk : k ≤ R.length) : Rw enc T s W B (.slice (some ⟨g, o, none⟩) k c) (R.take k) := by
  rcases h with ⟨e, _⟩ | ⟨g', o', cap, cur, e, q1, q2, q3, q4, q5, q6⟩
  · cases e
  · cases e
    refine .inr ⟨g, o, c, cur, by rw [List.length_take, Nat.min_eq_left hk], q1, q2, by rw [List.length_take]; omega, q4, q5, fun j x hj => q6 j x ?_⟩
    rw [List.getElem?_take] at hj
    split at hj
    · exact hj
    · cases hj
set_option maxHeartbeats 16000000 in
set_option maxRecDepth 100000 in
theorem each_any {w W : World} {L : List Piece} {p q : Nat} {z : Int} {A : Option Addr} {c : Nat} {v2 v3 : Value} {l : List Bn} {d : List K3} {f : Bn → Bn × Bool} {fn : Nat} {cb : Array Value}
    (H : Sep w (box p (stO q z (.slice A l.length c) v2 v3) :: rowB (.slice A l.length c) l :: row nkE 40 3 v3 d :: L) W) (D : DoAt w L f fn cb l) (hl : l.length + d.length ≤ 900000) :
    Calls Tryz.prog 36 #[.pointer (some ⟨p, 0, none⟩), .func (.func fn) #[] cb] W fun e V => e = .returned (.tuple #[]) ∧ ∃ A' c' v3', Sep w (box p (stO q z (.slice A' (Tk.kept f l).length c') v2 v3') :: rowB (.slice A' (Tk.kept f l).length c') (Tk.kept f l) :: row nkE 40 3 v3' (d ++ Tk.lost f l) :: L) V := by
  cases A with
  | none =>
    have hr := H.rows 1 rfl
    have e : l = [] := by
      rcases hr with ⟨_, h⟩ | ⟨_, _, _, _, e, _⟩
      · exact h
      · cases e
    subst e
    have e2 : c = 0 := by
      rcases hr with ⟨e, _⟩ | ⟨_, _, _, _, e, _⟩
      · cases e; rfl
      · cases e
    subst e2
    have H2 := Lib.hid (show Sep w (box p (stO q z (.slice none 0 0) v2 v3) :: rowB (.slice none 0 0) [] :: row nkE 40 3 v3 d :: L) W from H)
    obtain ⟨⟨k0, k1, k2, k3, k4⟩, f0, f1, f2, f3, f4⟩ := Bx.b5 (H2.out.held 0 rfl)
    have HZ : Hid (∀ V, V = W.setCell ⟨p, 1, none⟩ (.slice none 0 0) → Sep w (box p (stO q z (.slice none 0 0) v2 v3) :: rowB (.slice none 0 0) [] :: row nkE 40 3 v3 (d ++ []) :: L) V) := Lib.hid fun V e => by
      rw [e, List.append_nil]
      exact H2.out.cell (o := 1) _
    clear H H2 hr D hl
    go_enter Tryz.func36, Tryz.ntmps36
    go_wp2
    go_loopw [4, 21] (fun st ix wr => st = .slice none 0 0 ∧ ix = .int .i64 0 ∧ wr = W) (fun _ _ _ => 0)
    case atStart => exact ⟨rfl, rfl, rfl⟩
    case round =>
      obtain ⟨rfl, rfl, rfl⟩ := hrel
      go_wp2
      go_end0
      exact ⟨rfl, none, 0, v3, HZ.out _ rfl⟩
  | some a =>
    obtain ⟨g, o, sp⟩ := a
    have hr := H.rows 1 rfl
    obtain ⟨rfl, hnc, hc63⟩ : sp = none ∧ l.length ≤ c ∧ c ≤ 9223372036854775807 := by
      rcases hr with ⟨e, _⟩ | ⟨_, _, _, _, e, _, _, h1, h2, _⟩
      · cases e
      · cases e; exact ⟨rfl, h1, h2⟩
    have HS := Lib.hid H
    obtain ⟨⟨k0, k1, k2, k3, k4⟩, f0, f1, f2, f3, f4⟩ := Bx.b5 (H.held 0 rfl)
    have EG := D.ent
    have DO := Lib.hid D.does
    have I0 := Lib.hid (Tk.EaI.start l f)
    have LT : Hid (∀ i, i ≤ l.length → (Tk.kept f (l.take i)).length ≤ i) := Lib.hid fun i hi => Tk.EaI.lt hi
    clear H hr D
    generalize hn : l.length = n at *
    go_enter Tryz.func36, Tryz.ntmps36
    go_wp2
    clear k0 k1 k2 k3 k4 f0 f1 f2 f3 f4
    go_loopw [4, 21] (fun st ix wr => ∃ (i k : Nat) (R : List Bn) (v3' : Value), i ≤ n ∧ k = (Tk.kept f (l.take i)).length ∧ st = .slice (some ⟨g, o, none⟩) k c ∧ ix = .int .i64 i ∧ Hid (Tk.EaI R l f i) ∧ Hid (Sep w (box p (stO q z (.slice (some ⟨g, o, none⟩) n c) v2 v3') :: rowB (.slice (some ⟨g, o, none⟩) n c) R :: row nkE 40 3 v3' (d ++ Tk.lost f (l.take i)) :: L) wr)) (fun _ ix _ => n - (intOf ix).toNat)
    case atStart => exact ⟨0, 0, l, v3, Nat.zero_le _, rfl, rfl, rfl, I0, Lib.hid (by rw [List.take_zero, show Tk.lost f [] = [] from rfl, List.append_nil]; exact HS.out)⟩
    case round =>
      clear HS I0
      obtain ⟨i, k, R, v3', hi, hk, rfl, rfl, HI, HS⟩ := hrel
      by_cases hlt : i < n
      · have q1 : (i : Int) < (n : Int) := by omega
        have hil : i < l.length := by omega
        have hki : k ≤ i := by rw [hk]; exact LT.out i hi
        have hRn : R.length = n := HI.out.len.trans hn
        obtain ⟨x, hx⟩ : ∃ x, x = l[i] := ⟨_, rfl⟩
        have hRx : R[i]? = some x := by rw [hx]; exact HI.out.at_ hil
        have hro := HS.out.rows 1 rfl
        rw [← hRn] at hro
        obtain ⟨g', o', e, _, ⟨m0, m1, m2, m3, m4, m5, m6, m7, m8, m9, m10⟩, _⟩ := own_at hro hRx
        cases e
        have CBX := Lib.hid fun V (hV : Sep w L V) => DO.out x (by rw [hx]; exact List.getElem_mem hil) V hV
        have KEEP : Hid ((f x).2 = true → Tk.EaI (R.set k (f x).1) l f (i + 1) ∧ (Tk.kept f (l.take (i + 1))).length = k + 1 ∧ Tk.lost f (l.take (i + 1)) = Tk.lost f (l.take i)) := Lib.hid fun e => by
          rw [hx, hk] at *
          exact ⟨HI.out.keep hil e, by rw [Tk.kept_take hil, e]; simp, by rw [Tk.lost_take hil, e]; rfl⟩
        have SKIP : Hid ((f x).2 = false → Tk.EaI R l f (i + 1) ∧ (Tk.kept f (l.take (i + 1))).length = k ∧ Tk.lost f (l.take (i + 1)) = Tk.lost f (l.take i) ++ [x.id]) := Lib.hid fun e => by
          rw [hx, hk] at *
          exact ⟨HI.out.skip hil e, by rw [Tk.kept_take hil, e]; rfl, by rw [Tk.lost_take hil, e]; rfl⟩
        have hd : (d ++ Tk.lost f (l.take i)).length + 1 ≤ 1000000 := by
          have := Tk.lost_len f (l.take i)
          rw [List.length_take] at this
          rw [List.length_append]
          omega
        generalize hfx : f x = fx at *
        obtain ⟨y, ok⟩ := fx
        simp only at KEEP SKIP CBX
        clear hro hx hRx HI hk hfx DO LT
        have H1 := Lib.hid (sep_box HS.out (.cells #[.int .i64 x.s, .int .i64 x.i, .int .i64 x.g, .int .i64 x.m, .int .i64 x.x, .int .i64 x.y, .int .i64 x.vx, .int .i64 x.vy, .int .i64 x.h, .int .i64 x.p, .int .i64 x.l] 42))
        have HCX := Lib.hid (CBX.out _ (H1.out.drop.drop.drop.drop))
        clear CBX HS
        obtain ⟨xs, xi, xg, xm, xx, xy, xvx, xvy, xh, xp, xl⟩ := x
        simp only [Bn.val] at *
        go_upto_region 4 with fail
        clear m0 m1 m2 m3 m4 m5 m6 m7 m8 m9 m10
        generalize wr.alloc (.cells #[.int .i64 xs, .int .i64 xi, .int .i64 xg, .int .i64 xm, .int .i64 xx, .int .i64 xy, .int .i64 xvx, .int .i64 xvy, .int .i64 xh, .int .i64 xp, .int .i64 xl] 42) = w1 at *
        generalize wr.heap.size = bx at *
        obtain ⟨⟨m0, m1, m2, m3, m4, m5, m6, m7, m8, m9, m10⟩, _⟩ := Bx.b11 (H1.out.held 0 rfl)
        obtain ⟨ys, yi, yg, ym, yx, yy, yvx, yvy, yh, yp, yl⟩ := y
        simp only [Bn.val] at *
        go_upto_region 5 with (with_reducible refine HCX.out.mono ?_; rintro e w2 ⟨rfl, b2⟩; clear HCX m0 m1 m2 m3 m4 m5 m6 m7 m8 m9 m10; have H2 := Lib.hid (H1.out.below b2); clear H1 b2)
        have H3 := Lib.hid (sep_box H2.out (.cells #[.int .i64 ys, .int .i64 yi, .int .i64 yg, .int .i64 ym, .int .i64 yx, .int .i64 yy, .int .i64 yvx, .int .i64 yvy, .int .i64 yh, .int .i64 yp, .int .i64 yl] 42))
        clear H2
        generalize w2.alloc (.cells #[.int .i64 ys, .int .i64 yi, .int .i64 yg, .int .i64 ym, .int .i64 yx, .int .i64 yy, .int .i64 yvx, .int .i64 yvy, .int .i64 yh, .int .i64 yp, .int .i64 yl] 42) = w3 at *
        generalize w2.heap.size = bY at *
        cases ok with
        | true =>
          obtain ⟨KI, KL, KD⟩ := KEEP.out rfl
          have HK := Lib.hid KI
          clear SKIP KEEP KI
          have HB : Sep w (rowB (.slice (some ⟨g, o, none⟩) n c) R :: box bY (.cells #[.int .i64 ys, .int .i64 yi, .int .i64 yg, .int .i64 ym, .int .i64 yx, .int .i64 yy, .int .i64 yvx, .int .i64 yvy, .int .i64 yh, .int .i64 yp, .int .i64 yl] 42) :: box bx (.cells #[.int .i64 xs, .int .i64 xi, .int .i64 xg, .int .i64 xm, .int .i64 xx, .int .i64 xy, .int .i64 xvx, .int .i64 xvy, .int .i64 xh, .int .i64 xp, .int .i64 xl] 42) :: box p (stO q z (.slice (some ⟨g, o, none⟩) n c) v2 v3') :: row nkE 40 3 v3' (d ++ Tk.lost f (l.take i)) :: L) w3 := H3.out.pull 3 rfl
          obtain ⟨⟨m0, m1, m2, m3, m4, m5, m6, m7, m8, m9, m10⟩, _⟩ := Bx.b11 (H3.out.held 0 rfl)
          obtain ⟨V, hr, HV⟩ := Sep.app_in (t := 24) (ty := 24) Tryz.underlying24 bundle_info (by decide) bnE_len bnE_one HB hRn (show k < n by omega) ⟨ys, yi, yg, ym, yx, yy, yvx, yvy, yh, yp, yl⟩
          have HR : Hid ((Builtin.append_ #[24, 24] 24 #[.slice (some ⟨g, o, none⟩) k c, .slice (some ⟨w3.heap.size, 0, none⟩) 1 1]).run Tryz.prog (w3.alloc (.cells #[.int .i64 ys, .int .i64 yi, .int .i64 yg, .int .i64 ym, .int .i64 yx, .int .i64 yy, .int .i64 yvx, .int .i64 yvy, .int .i64 yh, .int .i64 yp, .int .i64 yl] 42)) = .ok (.slice (some ⟨g, o, none⟩) (k + 1) c) V) := Lib.hid hr
          have HW : Hid (Sep w (box p (stO q z (.slice (some ⟨g, o, none⟩) n c) v2 v3') :: rowB (.slice (some ⟨g, o, none⟩) n c) (R.set k ⟨ys, yi, yg, ym, yx, yy, yvx, yvy, yh, yp, yl⟩) :: row nkE 40 3 v3' (d ++ Tk.lost f (l.take i)) :: L) V) := Lib.hid (by
            have h1 := (HV.pull 1 rfl).drop
            have h2 := (Sep.pull h1 1 rfl).drop
            exact Sep.pull h2 1 rfl)
          clear hr HV HB H3
          go_wp2_with (at_builtin; refine wpList_append _ rfl (.tmp 32) (.tmp 34) _ _ rfl _ _ rfl rfl _ _ HR.out ?_)
          go_roundw
          case rel => exact ⟨i + 1, k + 1, _, v3', by omega, KL.symm, rfl, by go_num, HK, by rw [KD]; exact HW⟩
          case measure => simp [intOf]; omega
        | false =>
          obtain ⟨KI, KL, KD⟩ := SKIP.out rfl
          have HK := Lib.hid KI
          clear SKIP KEEP KI
          have HB : Sep w (row nkE 40 3 v3' (d ++ Tk.lost f (l.take i)) :: box bx (.cells #[.int .i64 xs, .int .i64 xi, .int .i64 xg, .int .i64 xm, .int .i64 xx, .int .i64 xy, .int .i64 xvx, .int .i64 xvy, .int .i64 xh, .int .i64 xp, .int .i64 xl] 42) :: box p (stO q z (.slice (some ⟨g, o, none⟩) n c) v2 v3') :: rowB (.slice (some ⟨g, o, none⟩) n c) R :: L) w3.drew := by
            have h1 := H3.out.drop
            exact (Sep.pull h1 3 rfl).drew
          obtain ⟨A3, c3, A4, c4, V, rfl, hr, HV⟩ := Sep.appx (t := 33) Tryz.underlying33 id_info rfl (by decide) nkE_len nkE_one HB (xs, xi, xg) hd (by decide) 33
          generalize (d ++ Tk.lost f (l.take i)).length = nd at *
          have HR : Hid ((Builtin.append_ #[33, 33] 33 #[.slice A3 nd c3, .slice (some ⟨w3.heap.size, 0, none⟩) 1 1]).run Tryz.prog (w3.drew.alloc (.cells #[.int .i64 xs, .int .i64 xi, .int .i64 xg] 40)) = .ok (.slice A4 (nd + 1) c4) V) := Lib.hid hr
          have HW : Hid (Sep w (box p (stO q z (.slice (some ⟨g, o, none⟩) n c) v2 (.slice A4 (nd + 1) c4)) :: rowB (.slice (some ⟨g, o, none⟩) n c) R :: row nkE 40 3 (.slice A4 (nd + 1) c4) (d ++ Tk.lost f (l.take i) ++ [(xs, xi, xg)]) :: L) (V.setCell ⟨p, 3, none⟩ (.slice A4 (nd + 1) c4))) := Lib.hid (by
            have h1 := (HV.pull 1 rfl).drop
            have h2 := Sep.pull h1 1 rfl
            have h3 := Sep.cell (o := 3) h2 (.slice A4 (nd + 1) c4)
            have h4 := Sep.pull h3 2 rfl
            exact Sep.pull h4 1 rfl)
          have P0 := H3.out.held 2 rfl
          have X0 := H3.out.held 1 rfl
          have AL := bel1 w3 (.cells #[.int .i64 xs, .int .i64 xi, .int .i64 xg] 40)
          obtain ⟨⟨_, _, _, c30, _⟩, _⟩ := Bx.b5 P0
          obtain ⟨⟨c00, c01, c02, _⟩, _⟩ := Bx.b11 X0
          have c31 := (AL.cell (p := ⟨p, 3, none⟩) (Bx.lt P0)).trans c30
          have c10 := (AL.cell (p := ⟨bx, 0, none⟩) (Bx.lt X0)).trans c00
          have c11 := (AL.cell (p := ⟨bx, 1, none⟩) (Bx.lt X0)).trans c01
          have c12 := (AL.cell (p := ⟨bx, 2, none⟩) (Bx.lt X0)).trans c02
          obtain ⟨⟨_, _, _, c32, _⟩, _, _, _, f32, _⟩ := Bx.b5 (HV.held 2 rfl)
          obtain ⟨⟨c20, c21, c22, _⟩, _⟩ := Bx.b11 (HV.held 1 rfl)
          clear hr HV HB H3 AL P0 X0
          go_upto_region 7 with fail
          go_region_law (refine step_append rfl (.tmp 41) (.tmp 44) 33 33 rfl (.slice A3 nd c3) (.slice (some ⟨w3.heap.size, 0, none⟩) 1 1) (by simp [Act.eval]) (by simp [Act.eval]) (.slice A4 (nd + 1) c4) V HR.out ?_)
          all_goals
            go_wp2
            go_roundw
            case rel => exact ⟨i + 1, k, R, _, by omega, KL.symm, rfl, by go_num, HK, by rw [KD, ← List.append_assoc]; exact HW⟩
            case measure => simp [intOf]; omega
      · obtain rfl : i = n := by omega
        have q1 : ¬ (i : Int) < (i : Int) := by omega
        have hki : k ≤ i := by rw [hk]; exact LT.out i hi
        have e1 : l.take i = l := by rw [← hn, List.take_length]
        rw [e1] at hk HS
        have HE : R.take k = Tk.kept f l := by
          have := HI.out.lo
          rw [e1, ← hk] at this
          exact this
        have hRn : R.length = i := HI.out.len.trans hn
        have HB : Sep w (rowB (.slice (some ⟨g, o, none⟩) i c) R :: box p (stO q z (.slice (some ⟨g, o, none⟩) i c) v2 v3') :: row nkE 40 3 v3' (d ++ Tk.lost f l) :: L) wr := HS.out.pull 1 rfl
        have HW : Hid (Sep w (box p (stO q z (.slice (some ⟨g, o, none⟩) k c) v2 v3') :: rowB (.slice (some ⟨g, o, none⟩) k c) (Tk.kept f l) :: row nkE 40 3 v3' (d ++ Tk.lost f l) :: L) (wr.setCell ⟨p, 1, none⟩ (.slice (some ⟨g, o, none⟩) k c))) := Lib.hid (by
          obtain ⟨G, ⟨h1, h2⟩, _, next⟩ := HB.one
          have h3 := next wr (rowB (.slice (some ⟨g, o, none⟩) k c) (Tk.kept f l)) G (Only.refl _ _) ⟨by rw [← HE]; exact rw_take h1 (by omega), h2⟩ fun k hk => .inl hk
          have h4 := Sep.pull h3 1 rfl
          exact Sep.cell (o := 1) h4 _)
        obtain ⟨_, f0, f1, f2, f3, f4⟩ := Bx.b5 (HS.out.held 0 rfl)
        have hk' := Lib.hid hk
        clear HS HB HI DO LT hk
        go_wp2
        go_end0
        refine ⟨rfl, some ⟨g, o, none⟩, c, v3', ?_⟩
        rw [← hk'.out]
        exact HW.out
end Go.Proofs.YtljaahemlcaffaaGreat
