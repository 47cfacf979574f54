/- The code: those that stay, those that go. -/
import Derived.Test.YtljaahemlcaffaaGreatK09
import Derived.Test.YtljaahemlcaffaaGreatK14
namespace Go.Proofs.YtljaahemlcaffaaGreat
open Go.RowKit Pz Sp
set_option linter.unusedVariables false
set_option linter.unusedSimpArgs false

theorem flt_take {P : Bn → Bool} {l : List Bn} {j : Nat} (hj : j < l.length) : (l.take (j + 1)).filter P = if P l[j] then (l.take j).filter P ++ [l[j]] else (l.take j).filter P := by
  rw [List.take_succ_eq_append_getElem hj, List.filter_append]
  cases h : P l[j] <;> simp [h]
theorem flt_len (P : Bn → Bool) (l : List Bn) (j : Nat) : ((l.take j).filter P).length ≤ l.length := by
  have := List.length_filter_le P (l.take j)
  rw [List.length_take] at this
  omega
set_option maxHeartbeats 16000000 in
set_option maxRecDepth 100000 in
theorem cpart_any {w W : World} {L : List Piece} {p q : Nat} (cC cR cS cD cV cN cQ z : Int) (hq : MapAt w q cC cR cS cD cV cN cQ) (ok : Zn.Ok cC cR cS cD cV) {A : Option Addr} {c : Nat} {v3 : Value} {l : List Bn}
    (H : Sep w (box p (stO q z (.slice A l.length c) (.slice none 0 0) v3) :: rowB (.slice A l.length c) l :: L) W) (hf : ∀ b ∈ l, Tk.Fi b) (hl : l.length ≤ 900000) :
    Calls Tryz.prog 40 #[.pointer (some ⟨p, 0, none⟩)] W fun e V => e = .returned (.tuple #[]) ∧ ∃ v1' v2', Sep w (box p (stO q z v1' v2' v3) :: rowB v1' (l.filter (hereC cC cR cS z)) :: rowB v2' (l.filter fun b => !hereC cC cR cS z b) :: L) V := by
  have HS := Lib.hid H
  obtain ⟨⟨k0, k1, k2, k3, k4⟩, f0, f1, f2, f3, f4⟩ := Bx.b5 (H.held 0 rfl)
  have H0 : Hid (Sep w (box p (stO q z (.slice none 0 0) (.slice none 0 0) v3) :: rowB (.slice none 0 0) [] :: rowB (.slice none 0 0) [] :: rowB (.slice A l.length c) l :: L) (W.setCell ⟨p, 1, none⟩ (.slice none 0 0))) := Lib.hid (by
    have h1 := H.cell (o := 1) (.slice none 0 0)
    have h2 := row_none bnE 42 11 (row_none bnE 42 11 h1)
    exact Sep.pull h2 2 rfl)
  have HAS : Hid (∀ (b : Bn) (V : World) (v1 v2 : Value) (M : List Piece), b ∈ l → Sep w (box p (stO q z v1 v2 v3) :: M) V → Calls Tryz.prog 76 #[.pointer (some ⟨p, 0, none⟩), b.val] V fun e w' => e = .returned (.bool (hereC cC cR cS z b)) ∧ Below V.heap.size V w') := Lib.hid fun b V v1 v2 M hb hV => chas_any cC cR cS cD cV cN cQ z (hq.at hV.bel hq.lt) ok (hV.held 0 rfl) b (hf b hb).x (hf b hb).y
  clear H hf hq ok
  generalize hn : l.length = n at *
  generalize hP : hereC cC cR cS z = P at *
  clear hP
  go_enter Tryz.func40, Tryz.ntmps40
  go_upto_region 2 with fail
  clear k0 k1 k2 k3 k4 f0 f1 f2 f3 f4 HS
  generalize W.setCell ⟨p, 1, none⟩ (.slice none 0 0) = w0 at *
  go_wp2
  go_loopw [16] (fun ix wr => ∃ (i : Nat) (v1' v2' : Value), i ≤ n ∧ ix = .int .i64 i ∧ Hid (Sep w (box p (stO q z v1' v2' v3) :: rowB v1' ((l.take i).filter P) :: rowB v2' ((l.take i).filter fun b => !P b) :: rowB (.slice A n c) l :: L) wr)) (fun ix _ => n - (intOf ix).toNat)
  case atStart => exact ⟨0, _, _, Nat.zero_le _, rfl, H0⟩
  case round =>
    clear H0
    obtain ⟨i, v1', v2', hi, rfl, HS⟩ := hrel
    by_cases hlt : i < n
    · have q1 : (i : Int) < (n : Int) := by omega
      have hil : i < l.length := by omega
      obtain ⟨x, hx⟩ : ∃ x, x = l[i] := ⟨_, rfl⟩
      have hro := HS.out.rows 3 rfl
      rw [← hn] at hro
      obtain ⟨g, o, rfl, _, ⟨m0, m1, m2, m3, m4, m5, m6, m7, m8, m9, m10⟩, _⟩ := own_at hro (show l[i]? = some x by rw [hx]; exact List.getElem?_eq_getElem hil)
      have HX : Hid (∀ V v1 v2 M, Sep w (box p (stO q z v1 v2 v3) :: M) V → Calls Tryz.prog 76 #[.pointer (some ⟨p, 0, none⟩), x.val] V fun e w' => e = .returned (.bool (P x)) ∧ Below V.heap.size V w') := Lib.hid fun V v1 v2 M hV => HAS.out x V v1 v2 M (by rw [hx]; exact List.getElem_mem hil) hV
      have F1 : Hid ((l.take (i + 1)).filter P = if P x then (l.take i).filter P ++ [x] else (l.take i).filter P) := Lib.hid (by rw [hx]; exact flt_take hil)
      have F2 : Hid ((l.take (i + 1)).filter (fun b => !P b) = if !P x then (l.take i).filter (fun b => !P b) ++ [x] else (l.take i).filter (fun b => !P b)) := Lib.hid (by rw [hx]; exact flt_take (P := fun b => !P b) hil)
      have l1 := flt_len P l i
      have l2 := flt_len (fun b => !P b) l i
      rw [hn] at l1 l2
      generalize hpx : P x = px at *
      clear hpx hro hx HAS
      obtain ⟨xs, xi, xg, xm, xx, xy, xvx, xvy, xh, xp, xl⟩ := x
      simp only [Bn.val] at *
      have H1 := Lib.hid (sep_box HS.out (.cells #[.int .i64 xs, .int .i64 xi, .int .i64 xg, .int .i64 xm, .int .i64 xx, .int .i64 xy, .int .i64 xvx, .int .i64 xvy, .int .i64 xh, .int .i64 xp, .int .i64 xl] 42))
      clear HS
      go_upto_region 5 with fail
      clear m0 m1 m2 m3 m4 m5 m6 m7 m8 m9 m10
      generalize wr.alloc (.cells #[.int .i64 xs, .int .i64 xi, .int .i64 xg, .int .i64 xm, .int .i64 xx, .int .i64 xy, .int .i64 xvx, .int .i64 xvy, .int .i64 xh, .int .i64 xp, .int .i64 xl] 42) = w1 at *
      generalize wr.heap.size = bx at *
      obtain ⟨⟨m0, m1, m2, m3, m4, m5, m6, m7, m8, m9, m10⟩, _⟩ := Bx.b11 (H1.out.held 0 rfl)
      have HX1 := Lib.hid (HX.out w1 v1' v2' _ H1.out.drop)
      clear HX
      cases px with
      | true =>
        simp only [if_true, Bool.not_true, Bool.false_eq_true, if_false] at F1 F2
        go_upto_region 6 with (go_at_call 76; with_reducible refine HX1.out.mono ?_; rintro e w2 ⟨rfl, b2⟩; clear HX1 m0 m1 m2 m3 m4 m5 m6 m7 m8 m9 m10; have H2 := Lib.hid (H1.out.below b2); clear H1 b2)
        have HB : Sep w (rowB v1' ((l.take i).filter P) :: box bx (.cells #[.int .i64 xs, .int .i64 xi, .int .i64 xg, .int .i64 xm, .int .i64 xx, .int .i64 xy, .int .i64 xvx, .int .i64 xvy, .int .i64 xh, .int .i64 xp, .int .i64 xl] 42) :: box p (stO q z v1' v2' v3) :: rowB v2' ((l.take i).filter fun b => !P b) :: rowB (.slice (some ⟨g, o, none⟩) n c) l :: L) w2.drew := (H2.out.pull 2 rfl).drew
        obtain ⟨A3, c3, A4, c4, V, rfl, hr, HV⟩ := Sep.appx (t := 24) Tryz.underlying24 bundle_info rfl (by decide) bnE_len bnE_one HB ⟨xs, xi, xg, xm, xx, xy, xvx, xvy, xh, xp, xl⟩ (by omega) (by decide) 24
        generalize ((l.take i).filter P).length = nd at *
        have HR : Hid ((Builtin.append_ #[24, 24] 24 #[.slice A3 nd c3, .slice (some ⟨w2.heap.size, 0, none⟩) 1 1]).run Tryz.prog (w2.drew.alloc (.cells #[.int .i64 xs, .int .i64 xi, .int .i64 xg, .int .i64 xm, .int .i64 xx, .int .i64 xy, .int .i64 xvx, .int .i64 xvy, .int .i64 xh, .int .i64 xp, .int .i64 xl] 42)) = .ok (.slice A4 (nd + 1) c4) V) := Lib.hid hr
        have HW : Hid (Sep w (box p (stO q z (.slice A4 (nd + 1) c4) v2' v3) :: rowB (.slice A4 (nd + 1) c4) ((l.take (i + 1)).filter P) :: rowB v2' ((l.take (i + 1)).filter fun b => !P b) :: rowB (.slice (some ⟨g, o, none⟩) n c) l :: L) (V.setCell ⟨p, 1, none⟩ (.slice A4 (nd + 1) c4))) := Lib.hid (by
          rw [F1.out, F2.out]
          have h1 := (HV.pull 1 rfl).drop
          have h2 := Sep.pull h1 1 rfl
          exact Sep.cell (o := 1) h2 (.slice A4 (nd + 1) c4))
        have P0 := H2.out.held 1 rfl
        have X0 := H2.out.held 0 rfl
        have AL := bel1 w2 (.cells #[.int .i64 xs, .int .i64 xi, .int .i64 xg, .int .i64 xm, .int .i64 xx, .int .i64 xy, .int .i64 xvx, .int .i64 xvy, .int .i64 xh, .int .i64 xp, .int .i64 xl] 42)
        obtain ⟨⟨_, c1, c2, _, _⟩, _⟩ := Bx.b5 P0
        obtain ⟨⟨a0, a1, a2, a3, a4, a5, a6, a7, a8, a9, a10⟩, _⟩ := Bx.b11 X0
        have P1 := (AL.block _ (Bx.lt P0)).trans P0
        have X1 := (AL.block _ (Bx.lt X0)).trans X0
        obtain ⟨⟨_, d1, d2, _, _⟩, _⟩ := Bx.b5 P1
        obtain ⟨⟨b0, b1, b2, b3, b4, b5, b6, b7, b8, b9, b10⟩, _⟩ := Bx.b11 X1
        obtain ⟨⟨_, e1, e2, _, _⟩, _, f1, f2, _⟩ := Bx.b5 (HV.held 2 rfl)
        obtain ⟨⟨g0, g1, g2, g3, g4, g5, g6, g7, g8, g9, g10⟩, _⟩ := Bx.b11 (HV.held 1 rfl)
        clear hr HV HB H2 AL P0 X0 P1 X1 F1 F2
        go_region_law (refine step_append rfl (.tmp 28) (.tmp 30) 24 24 rfl (.slice A3 nd c3) (.slice (some ⟨w2.heap.size, 0, none⟩) 1 1) (by simp [Act.eval]) (by simp [Act.eval]) (.slice A4 (nd + 1) c4) V HR.out ?_)
        all_goals
          go_wp2
          go_roundw
          case rel => exact ⟨i + 1, _, _, by omega, by go_num, HW⟩
          case measure => simp [intOf]; omega
      | false =>
        simp only [if_true, Bool.not_false, Bool.false_eq_true, if_false] at F1 F2
        go_upto_region 7 with (go_at_call 76; with_reducible refine HX1.out.mono ?_; rintro e w2 ⟨rfl, b2⟩; clear HX1 m0 m1 m2 m3 m4 m5 m6 m7 m8 m9 m10; have H2 := Lib.hid (H1.out.below b2); clear H1 b2)
        have HB : Sep w (rowB v2' ((l.take i).filter fun b => !P b) :: box bx (.cells #[.int .i64 xs, .int .i64 xi, .int .i64 xg, .int .i64 xm, .int .i64 xx, .int .i64 xy, .int .i64 xvx, .int .i64 xvy, .int .i64 xh, .int .i64 xp, .int .i64 xl] 42) :: box p (stO q z v1' v2' v3) :: rowB v1' ((l.take i).filter P) :: rowB (.slice (some ⟨g, o, none⟩) n c) l :: L) w2.drew := (H2.out.pull 3 rfl).drew
        obtain ⟨A3, c3, A4, c4, V, rfl, hr, HV⟩ := Sep.appx (t := 24) Tryz.underlying24 bundle_info rfl (by decide) bnE_len bnE_one HB ⟨xs, xi, xg, xm, xx, xy, xvx, xvy, xh, xp, xl⟩ (by omega) (by decide) 24
        generalize ((l.take i).filter fun b => !P b).length = nd at *
        have HR : Hid ((Builtin.append_ #[24, 24] 24 #[.slice A3 nd c3, .slice (some ⟨w2.heap.size, 0, none⟩) 1 1]).run Tryz.prog (w2.drew.alloc (.cells #[.int .i64 xs, .int .i64 xi, .int .i64 xg, .int .i64 xm, .int .i64 xx, .int .i64 xy, .int .i64 xvx, .int .i64 xvy, .int .i64 xh, .int .i64 xp, .int .i64 xl] 42)) = .ok (.slice A4 (nd + 1) c4) V) := Lib.hid hr
        have HW : Hid (Sep w (box p (stO q z v1' (.slice A4 (nd + 1) c4) v3) :: rowB v1' ((l.take (i + 1)).filter P) :: rowB (.slice A4 (nd + 1) c4) ((l.take (i + 1)).filter fun b => !P b) :: rowB (.slice (some ⟨g, o, none⟩) n c) l :: L) (V.setCell ⟨p, 2, none⟩ (.slice A4 (nd + 1) c4))) := Lib.hid (by
          rw [F1.out, F2.out]
          have h1 := (HV.pull 1 rfl).drop
          have h2 := Sep.pull h1 1 rfl
          have h3 := Sep.cell (o := 2) h2 (.slice A4 (nd + 1) c4)
          have h4 := Sep.pull h3 2 rfl
          exact Sep.pull h4 1 rfl)
        have P0 := H2.out.held 1 rfl
        have X0 := H2.out.held 0 rfl
        have AL := bel1 w2 (.cells #[.int .i64 xs, .int .i64 xi, .int .i64 xg, .int .i64 xm, .int .i64 xx, .int .i64 xy, .int .i64 xvx, .int .i64 xvy, .int .i64 xh, .int .i64 xp, .int .i64 xl] 42)
        obtain ⟨⟨_, c1, c2, _, _⟩, _⟩ := Bx.b5 P0
        obtain ⟨⟨a0, a1, a2, a3, a4, a5, a6, a7, a8, a9, a10⟩, _⟩ := Bx.b11 X0
        have P1 := (AL.block _ (Bx.lt P0)).trans P0
        have X1 := (AL.block _ (Bx.lt X0)).trans X0
        obtain ⟨⟨_, d1, d2, _, _⟩, _⟩ := Bx.b5 P1
        obtain ⟨⟨b0, b1, b2, b3, b4, b5, b6, b7, b8, b9, b10⟩, _⟩ := Bx.b11 X1
        obtain ⟨⟨_, e1, e2, _, _⟩, _, f1, f2, _⟩ := Bx.b5 (HV.held 2 rfl)
        obtain ⟨⟨g0, g1, g2, g3, g4, g5, g6, g7, g8, g9, g10⟩, _⟩ := Bx.b11 (HV.held 1 rfl)
        clear hr HV HB H2 AL P0 X0 P1 X1 F1 F2
        go_region_law (refine step_append rfl (.tmp 40) (.tmp 42) 24 24 rfl (.slice A3 nd c3) (.slice (some ⟨w2.heap.size, 0, none⟩) 1 1) (by simp [Act.eval]) (by simp [Act.eval]) (.slice A4 (nd + 1) c4) V HR.out ?_)
        all_goals
          go_wp2
          go_roundw
          case rel => exact ⟨i + 1, _, _, by omega, by go_num, HW⟩
          case measure => simp [intOf]; omega
    · obtain rfl : i = n := by omega
      have q1 : ¬ (i : Int) < (i : Int) := by omega
      have HE : Hid (Sep w (box p (stO q z v1' v2' v3) :: rowB v1' (l.filter P) :: rowB v2' (l.filter fun b => !P b) :: L) wr) := Lib.hid (by
        have e1 : l.take i = l := by rw [← hn, List.take_length]
        have h1 := HS.out
        rw [e1] at h1
        have h2 := (h1.pull 3 rfl).drop
        exact h2)
      clear HS HAS
      go_wp2
      go_end0
      exact ⟨rfl, _, _, HE.out⟩
end Go.Proofs.YtljaahemlcaffaaGreat
