/- The code: a tick of a zone that there is. -/
import Derived.Test.YtljaahemlcaffaaGreatK32
import Derived.Test.YtljaahemlcaffaaGreatK33
namespace Go.Proofs.YtljaahemlcaffaaGreat
open Go.RowKit Pz Sp Go.Shelf
set_option linter.unusedVariables false
set_option linter.unusedSimpArgs false

set_option maxHeartbeats 32000000 in
set_option maxRecDepth 100000 in
theorem crun_in (cC cR cS cD cV cN cQ z : Int) (w : World) (q : Nat) (hq : MapAt w q cC cR cS cD cV cN cQ) (ok : Zn.Ok cC cR cS cD cV) (hz0 : -1 ≤ z) (hz1 : z < cC * cR) (A A2 A3 : Option Addr) (c c2 c3 : Nat) (own near : List Bn) (cs : List Cn) (H : Hand w A A2 A3 own near cs) (hu : Tk.Un own) :
    Calls Tryz.prog 13 #[.pointer (some ⟨q, 0, none⟩), .int .i64 z, .slice A own.length c, .slice A2 near.length c2, .slice A3 cs.length c3] w (Left w (Tk.run cC cR cS cD cV z own near cs)) := by
  have H0 : Hid (Sep w [box (w.heap.size + 1) (.cells #[.slice none 0 0, .slice none 0 0, .slice none 0 0] 35), box w.heap.size (.cells #[.pointer (some ⟨q, 0, none⟩)] 27)] ((w.alloc (.cells #[.pointer (some ⟨q, 0, none⟩)] 27)).alloc (.cells #[.slice none 0 0, .slice none 0 0, .slice none 0 0] 35))) := Lib.hid (by
    have := sep_box (sep_box (sep_new w) (.cells #[.pointer (some ⟨q, 0, none⟩)] 27)) (.cells #[.slice none 0 0, .slice none 0 0, .slice none 0 0] 35)
    rw [size1] at this
    exact this)
  have CN := Lib.hid fun V (h : Below w.heap.size w V) => count_any q cC cR cS cD cV cN cQ V (hq.below h) ok
  have HD := Lib.hid fun V (h : Below w.heap.size w V) => H.below h
  have HQ := Lib.hid fun V (h : Below w.heap.size w V) => show MapAt V q cC cR cS cD cV cN cQ from hq.below h
  have HIT := Lib.hid fun V (h : Below w.heap.size w V) => chits_any (c := c) (c2 := c2) (H.below h).r1 (H.below h).r2 H.l1 H.l2 cD
  have ls : (sortL Bn.id own).length = own.length := (Sy.sort_perm own).length_eq
  have SRT := Lib.hid fun V (h : Below w.heap.size w V) => show Calls Tryz.prog 32 #[.slice A own.length c] V fun e w' => (∃ A' c', e = .returned (.slice A' (sortL Bn.id own).length c') ∧ OwnB w' V.heap.size (.slice A' (sortL Bn.id own).length c') (sortL Bn.id own)) ∧ Below V.heap.size V w' from by
    refine (sorted_any (cap := c) (H.below h).r1 (Nat.le_trans H.l1 (by decide))).mono ?_
    rintro e V ⟨⟨A', c', rfl, ho⟩, hb⟩
    exact ⟨⟨A', c', by rw [ls], by rw [ls]; exact ho⟩, hb⟩
  have BD0 : Tk.Bd 1000 (sortL Bn.id own, []) := by
    have := H.l1
    refine ⟨by rw [ls]; exact this, by rw [ls]; simpa using this, fun b hb => Tk.Fi.of (H.f1 b ((Sy.sort_perm own).mem_iff.1 hb))⟩
  have BD1 : Tk.Bd 1000 (Tk.eachC (Tk.hurts (Sy.hits cD own near)) (sortL Bn.id own, [])) := BD0.each fun b hb => Tk.hurt_fi hb _
  have BDC : ∀ i, Tk.Bd 2000 (Tk.cmdsC cC cR cS z (Tk.eachC (Tk.hurts (Sy.hits cD own near)) (sortL Bn.id own, [])) (cs.take i)) := fun i => by
    have h := Tk.Bd.cmds (C := cC) (R := cR) (S := cS) (z := z) (cs.take i) BD1 fun x hx => Tk.Fi.of (H.f3 x (List.mem_of_mem_take hx)).b
    have hl : (cs.take i).length ≤ 1000 := by rw [List.length_take]; have := H.l3; omega
    exact ⟨by have := h.own; omega, by have := h.all; omega, h.fi⟩
  have HUC := Lib.hid fun V p L A' c' Ah ch (h : Sep w (Stg p q z A' c' (.slice none 0 0) (.slice none 0 0) (sortL Bn.id own, []) (row htE 104 4 (.slice Ah (Sy.hits cD own near).length ch) (Sy.hits cD own near) :: L)) V) => churts_any h (by have := BD0.all; omega) rfl (Nat.le_trans (hits_few own near cD) H.l1) (hits_rise hu cD) (fun x hx => by have := Sy.hits_bd x hx; unfold Fit; omega) BD0.fi
  have DOC := Lib.hid fun (i : Nat) (hi : i < cs.length) V p L A' c' v2 v3 (h : Sep w (Stg p q z A' c' v2 v3 (Tk.cmdsC cC cR cS z (Tk.eachC (Tk.hurts (Sy.hits cD own near)) (sortL Bn.id own, [])) (cs.take i)) L) V) => show Calls Tryz.prog 35 #[.pointer (some ⟨p, 0, none⟩), cs[i].val] V fun e V' => e = .returned (.tuple #[]) ∧ ∃ A' c' v3', Sep w (Stg p q z A' c' v2 v3' (Tk.cmdsC cC cR cS z (Tk.eachC (Tk.hurts (Sy.hits cD own near)) (sortL Bn.id own, [])) (cs.take (i + 1))) L) V' from by
    rw [Tk.cmdsC_take hi]
    exact cdo_any cC cR cS cD cV cN cQ z hq ok hz0 h (by have := (BDC i).all; omega) cs[i] (Tk.Fi.of (H.f3 _ (List.getElem_mem hi)).b)
  have BE : Tk.Bd 2000 (Tk.runC cC cR cS cD cV z own near cs) := by
    have h := (BDC cs.length).each (f := Tk.ends cC cR cS cV) fun b hb => Tk.age_fi (Tk.move_fi ok hb)
    rw [List.take_length] at h
    exact h
  have ENC := Lib.hid fun V p A' c' v2 v3 (h : Sep w (Stg p q z A' c' v2 v3 (Tk.cmdsC cC cR cS z (Tk.eachC (Tk.hurts (Sy.hits cD own near)) (sortL Bn.id own, [])) cs) (box w.heap.size (.cells #[.pointer (some ⟨q, 0, none⟩)] 27) :: box (w.heap.size + 1) (.cells #[.slice none 0 0, .slice none 0 0, .slice none 0 0] 35) :: [])) V) => show Calls Tryz.prog 36 #[.pointer (some ⟨p, 0, none⟩), .func (.func 37) #[] #[.pointer (some ⟨w.heap.size, 0, none⟩)]] V fun e V' => e = .returned (.tuple #[]) ∧ ∃ A' c' v3', Sep w (Stg p q z A' c' v2 v3' (Tk.runC cC cR cS cD cV z own near cs) (box w.heap.size (.cells #[.pointer (some ⟨q, 0, none⟩)] 27) :: box (w.heap.size + 1) (.cells #[.slice none 0 0, .slice none 0 0, .slice none 0 0] 35) :: [])) V' from each_any h (fn := 37) (f := Tk.ends cC cR cS cV) (cb := #[.pointer (some ⟨w.heap.size, 0, none⟩)]) ⟨em_run1, fun b hb V hV => run1_any cC cR cS cD cV cN cQ ok b (by have := (BDC cs.length).fi; rw [List.take_length] at this; exact this b hb) w.heap.size q V (hq.at hV.bel hq.lt) (hV.held 0 rfl)⟩ (by have := (BDC cs.length).all; rw [List.take_length] at this; omega)
  have PAC := Lib.hid fun V p L A' c' v3 (h : Sep w (box p (stO q z (.slice A' (Tk.runC cC cR cS cD cV z own near cs).1.length c') (.slice none 0 0) v3) :: rowB (.slice A' (Tk.runC cC cR cS cD cV z own near cs).1.length c') (Tk.runC cC cR cS cD cV z own near cs).1 :: L) V) => cpart_any cC cR cS cD cV cN cQ z hq ok h BE.fi (by have := BE.own; omega)
  have DEC := Lib.hid fun V p L v1 v2 A' n' c' (hn : (Tk.runC cC cR cS cD cV z own near cs).2.length = n') (h : Sep w (box p (stO q z v1 v2 (.slice A' n' c')) :: row nkE 40 3 (.slice A' n' c') (Tk.runC cC cR cS cD cV z own near cs).2 :: L) V) => dead_any h hn (by have := BE.all; omega)
  have FIN : Hid (Tk.run cC cR cS cD cV z own near cs = ((Tk.runC cC cR cS cD cV z own near cs).1.filter (hereC cC cR cS z), (Tk.runC cC cR cS cD cV z own near cs).1.filter (fun b => !hereC cC cR cS z b), Tk.dd (srtN (Tk.runC cC cR cS cD cV z own near cs).2))) := Lib.hid (by
    have hk := Tk.run_like cC cR cS cD cV z hu near cs
    have hd := Tk.names_are (srtN_perm (Tk.runC cC cR cS cD cV z own near cs).2) (srtN_srt _) (Tk.run_ok cC cR cS cD cV z hu near cs).rise hk.dead
    unfold Tk.run
    rw [if_pos ⟨hz0, hz1⟩, hd, hk.own, here_is hz0])
  have RDC := Lib.hid fun V (h : Below w.heap.size w V) (i : Nat) (hi : i < cs.length) => (H.below h).r3 i _ (List.getElem?_eq_getElem hi)
  have hl3 := H.l3
  clear hq ok H hu BD0 BD1 BDC BE
  have t1 : ¬ z < -1 := by omega
  have bs := b_stage q z
  generalize cC * cR = n9 at *
  have t2 : ¬ n9 ≤ z := by omega
  clear hz1
  replace ls := Lib.hid ls
  generalize Tk.run cC cR cS cD cV z own near cs = RES at *
  generalize Tk.runC cC cR cS cD cV z own near cs = RR at *
  generalize hS0 : Tk.eachC (Tk.hurts (Sy.hits cD own near)) (sortL Bn.id own, []) = S0 at *
  generalize Sy.hits cD own near = hs at *
  generalize sortL Bn.id own = so at *
  go_enter Tryz.func13, Tryz.ntmps13
  go_upto_region 1 with fail
  generalize (w.alloc (.cells #[.pointer (some ⟨q, 0, none⟩)] 27)).alloc (.cells #[.slice none 0 0, .slice none 0 0, .slice none 0 0] 35) = w0 at *
  obtain ⟨m0, _⟩ := Bx.b1 (H0.out.held 1 rfl)
  go_upto_region 3 with (go_at_call 21; with_reducible refine (CN.out _ H0.out.bel).mono ?_; rintro e w1 ⟨rfl, b1⟩; clear CN m0; have H1 := Lib.hid (H0.out.below b1); clear H0 b1)
  have H2 : Hid (Sep w (box w1.heap.size (.cells #[.pointer (some ⟨q, 0, none⟩), .slice none 0 0, .slice none 0 0, .slice none 0 0, .int .i64 z] 73) :: box w.heap.size (.cells #[.pointer (some ⟨q, 0, none⟩)] 27) :: box (w.heap.size + 1) (.cells #[.slice none 0 0, .slice none 0 0, .slice none 0 0] 35) :: []) (w1.alloc (.cells #[.pointer (some ⟨q, 0, none⟩), .slice none 0 0, .slice none 0 0, .slice none 0 0, .int .i64 z] 73))) := Lib.hid (sep_box (H1.out.pull 1 rfl) _)
  obtain ⟨m0, _⟩ := Bx.b1 (H1.out.held 1 rfl)
  clear H1
  go_upto_region 4 with fail
  generalize w1.alloc (.cells #[.pointer (some ⟨q, 0, none⟩), .slice none 0 0, .slice none 0 0, .slice none 0 0, .int .i64 z] 73) = w2 at *
  generalize w1.heap.size = p at *
  clear m0
  obtain ⟨⟨p0, p1, p2, p3, p4⟩, g0, g1, g2, g3, g4⟩ := Bx.b5 (H2.out.held 0 rfl)
  have SR := Lib.hid (SRT.out w2 H2.out.bel)
  clear SRT p0 p1 p2 p3 p4 g0 g1 g2 g3 g4
  go_upto_region 5 with (go_at_call 32; with_reducible refine SR.out.mono ?_; rintro e w3 ⟨⟨As, ca, rfl, ho⟩, b3⟩; clear SR; have H3 := Lib.hid (sep_row H2.out b3 ho); clear H2 b3 ho; obtain ⟨⟨p0, p1, p2, p3, p4⟩, g0, g1, g2, g3, g4⟩ := Bx.b5 (H3.out.held 1 rfl))
  clear p0 p1 p2 p3 p4 g0 g1 g2 g3 g4
  have H4 : Hid (Sep w (Stg p q z As ca (.slice none 0 0) (.slice none 0 0) (so, []) (box w.heap.size (.cells #[.pointer (some ⟨q, 0, none⟩)] 27) :: box (w.heap.size + 1) (.cells #[.slice none 0 0, .slice none 0 0, .slice none 0 0] 35) :: [])) (w3.setCell ⟨p, 1, none⟩ (.slice As so.length ca))) := Lib.hid (by
    have h1 := Sep.cell (o := 1) (H3.out.pull 1 rfl) (.slice As so.length ca)
    have h2 := row_none nkE 40 3 h1
    have h3 := Sep.pull h2 2 rfl
    exact Sep.pull h3 2 rfl)
  clear H3
  generalize w3.setCell ⟨p, 1, none⟩ (.slice As so.length ca) = w4 at *
  obtain ⟨m0, _⟩ := Bx.b1 (H4.out.held 3 rfl)
  obtain ⟨⟨q0, q1, q2, q3, q4, q5, q6⟩, _⟩ := box7 (HQ.out w4 H4.out.bel)
  have HI := Lib.hid (HIT.out w4 H4.out.bel)
  clear HIT
  go_upto_region 6 with (first
    | (go_at_call 34; with_reducible refine HI.out.mono ?_; rintro e w5 ⟨Ah, ch, rfl, ho, b5⟩; clear HI m0 q0 q1 q2 q3 q4 q5 q6; have H5 := Lib.hid (sep_row H4.out b5 ho); clear H4 b5 ho; have HU := Lib.hid (HUC.out w5 p _ As ca Ah ch (Sep.pull (Sep.pull (Sep.pull H5.out 3 rfl) 3 rfl) 3 rfl)); clear HUC H5)
    | (go_at_call 33; with_reducible refine HU.out.mono ?_; rintro e w6 ⟨rfl, A6, c6, v6, h6⟩; clear HU; have H6 := Lib.hid (Sep.pull h6 3 rfl).drop; clear h6))
  go_wp2
  go_loopw [45] (fun ix wr => ∃ (i : Nat) (A' : Option Addr) (c' : Nat) (v3' : Value), i ≤ cs.length ∧ ix = .int .i64 i ∧ Hid (Sep w (Stg p q z A' c' (.slice none 0 0) v3' (Tk.cmdsC cC cR cS z S0 (cs.take i)) (box w.heap.size (.cells #[.pointer (some ⟨q, 0, none⟩)] 27) :: box (w.heap.size + 1) (.cells #[.slice none 0 0, .slice none 0 0, .slice none 0 0] 35) :: [])) wr)) (fun ix _ => cs.length - (intOf ix).toNat)
  case atStart => exact ⟨0, A6, c6, v6, Nat.zero_le _, rfl, H6⟩
  case round =>
    clear H6
    obtain ⟨i, A7, c7, v7, hi, rfl, HS⟩ := hrel
    by_cases hlt : i < cs.length
    · have r1 : (i : Int) < (cs.length : Int) := by omega
      obtain ⟨g, o, rfl, _, k0, k1, k2, k3, k4, k5, k6, k7, k8, k9, k10, k11, k12, k13, k14, k15⟩ := RDC.out wr HS.out.bel i hlt
      have DO1 := Lib.hid fun V L A' c' v2 v3 h => DOC.out i hlt V p L A' c' v2 v3 h
      obtain ⟨x, hx⟩ : ∃ x, x = cs[i] := ⟨_, rfl⟩
      rw [← hx] at DO1 k0 k1 k2 k3 k4 k5 k6 k7 k8 k9 k10 k11 k12 k13 k14 k15
      have H1 := Lib.hid (sep_box HS.out (.cells #[.int .i64 x.k, .int .i64 x.s, .int .i64 x.i, .int .i64 x.g, .int .i64 x.b.s, .int .i64 x.b.i, .int .i64 x.b.g, .int .i64 x.b.m, .int .i64 x.b.x, .int .i64 x.b.y, .int .i64 x.b.vx, .int .i64 x.b.vy, .int .i64 x.b.h, .int .i64 x.b.p, .int .i64 x.b.l, .int .i64 x.m] 55))
      have b0 := (Bx.b16 (H1.out.held 0 rfl)).1
      clear HS DOC RDC PAC DEC ENC hx
      obtain ⟨uk, us_, ui_, ug_, ⟨us, ui, ug, um, ux, uy, uvx, uvy, uh, up, ul⟩, um_⟩ := x
      simp only [Cn.val] at *
      go_upto_region 9 with fail
      clear k0 k1 k2 k3 k4 k5 k6 k7 k8 k9 k10 k11 k12 k13 k14 k15
      generalize wr.alloc (.cells #[.int .i64 uk, .int .i64 us_, .int .i64 ui_, .int .i64 ug_, .int .i64 us, .int .i64 ui, .int .i64 ug, .int .i64 um, .int .i64 ux, .int .i64 uy, .int .i64 uvx, .int .i64 uvy, .int .i64 uh, .int .i64 up, .int .i64 ul, .int .i64 um_] 55) = w7 at *
      generalize wr.heap.size = bx at *
      obtain ⟨k0, k1, k2, k3, k4, k5, k6, k7, k8, k9, k10, k11, k12, k13, k14, k15⟩ := b0
      have DO2 := Lib.hid (DO1.out w7 _ A7 c7 (.slice none 0 0) v7 (Sep.pull (Sep.pull (Sep.pull H1.out 3 rfl) 3 rfl) 3 rfl))
      clear DO1 H1
      go_wp2_with (go_at_call 35; with_reducible refine DO2.out.mono ?_; rintro e w8 ⟨rfl, A8, c8, v8, h8⟩; clear DO2 k0 k1 k2 k3 k4 k5 k6 k7 k8 k9 k10 k11 k12 k13 k14 k15; have H8 := Lib.hid (Sep.pull h8 3 rfl).drop; clear h8)
      go_roundw
      case rel => exact ⟨i + 1, A8, c8, v8, by omega, by go_num, H8⟩
      case measure => simp [intOf]; omega
    · have ei : i = cs.length := by omega
      have r1 : ¬ (i : Int) < (cs.length : Int) := by omega
      have H6 : Hid (Sep w (Stg p q z A7 c7 (.slice none 0 0) v7 (Tk.cmdsC cC cR cS z S0 cs) (box w.heap.size (.cells #[.pointer (some ⟨q, 0, none⟩)] 27) :: box (w.heap.size + 1) (.cells #[.slice none 0 0, .slice none 0 0, .slice none 0 0] 35) :: [])) wr) := by rwa [ei, List.take_length] at HS
      have EN := Lib.hid (ENC.out wr p A7 c7 (.slice none 0 0) v7 H6.out)
      clear HS ENC DOC RDC ei
      go_upto_region 12 with (go_at_call 36; with_reducible refine EN.out.mono ?_; rintro e w9 ⟨rfl, A9, c9, v9, h9⟩; clear EN H6; have H9 := Lib.hid h9; clear h9)
      have PA := Lib.hid (PAC.out w9 p _ A9 c9 v9 H9.out)
      clear PAC
      go_upto_region 13 with (go_at_call 40; with_reducible refine PA.out.mono ?_; rintro e w10 ⟨rfl, v1, v2, h10⟩; clear PA H9; have H10 := Lib.hid h10; clear h10)
      obtain ⟨A11, c11, e11⟩ := (H10.out.rows 3 rfl).form
      subst e11
      have DE := Lib.hid (DEC.out w10 p _ v1 v2 A11 _ c11 rfl (Sep.pull (Sep.pull H10.out 3 rfl) 1 rfl))
      clear DEC
      go_upto_region 14 with (go_at_call 41; with_reducible refine DE.out.mono ?_; rintro e w12 ⟨rfl, m, h12⟩; clear DE H10; have H12 := Lib.hid h12; clear h12)
      obtain ⟨A13, c13, e13⟩ := (H12.out.rows 2 rfl).form
      obtain ⟨A14, c14, e14⟩ := (H12.out.rows 3 rfl).form
      obtain ⟨A15, c15, e15⟩ := (H12.out.rows 1 rfl).form
      have em : m = (Tk.dd (srtN RR.2)).length := by cases e15; rfl
      subst e13 e14 em
      clear e15
      obtain ⟨⟨_, p1, p2, p3, _⟩, _⟩ := Bx.b5 (H12.out.held 0 rfl)
      obtain ⟨_, f0, f1, f2⟩ := Bx.b3 (H12.out.held 5 rfl)
      have HX := Lib.hid (Sep.set3 (H12.out.pull 5 rfl) (.slice A13 (RR.1.filter (hereC cC cR cS z)).length c13) (.slice A14 (RR.1.filter fun b => !hereC cC cR cS z b).length c14) (.slice A11 (Tk.dd (srtN RR.2)).length c11))
      have RS := Lib.hid (show ∀ V, Sep w (box (w.heap.size + 1) (.cells #[.slice A13 (RR.1.filter (hereC cC cR cS z)).length c13, .slice A14 (RR.1.filter fun b => !hereC cC cR cS z b).length c14, .slice A11 (Tk.dd (srtN RR.2)).length c11] 35) :: box p (stO q z (.slice A13 (RR.1.filter (hereC cC cR cS z)).length c13) (.slice A14 (RR.1.filter fun b => !hereC cC cR cS z b).length c14) (.slice A11 (Tk.dd (srtN RR.2)).length c11)) :: row nkE 40 3 (.slice A11 (Tk.dd (srtN RR.2)).length c11) (Tk.dd (srtN RR.2)) :: rowB (.slice A13 (RR.1.filter (hereC cC cR cS z)).length c13) (RR.1.filter (hereC cC cR cS z)) :: rowB (.slice A14 (RR.1.filter fun b => !hereC cC cR cS z b).length c14) (RR.1.filter fun b => !hereC cC cR cS z b) :: box w.heap.size (.cells #[.pointer (some ⟨q, 0, none⟩)] 27) :: []) V → Left w RES (.returned (.agg #[.slice A13 (RR.1.filter (hereC cC cR cS z)).length c13, .slice A14 (RR.1.filter fun b => !hereC cC cR cS z b).length c14, .slice A11 (Tk.dd (srtN RR.2)).length c11])) V from fun V h => by
        rw [FIN.out]
        exact ⟨A13, A14, A11, c13, c14, c11, rfl, ⟨h.rowsB 3 rfl, h.rowsB 4 rfl, h.rowsB 2 rfl⟩, h.bel⟩)
      clear H12 FIN
      generalize (RR.1.filter (hereC cC cR cS z)).length = n13 at *
      generalize (RR.1.filter fun b => !hereC cC cR cS z b).length = n14 at *
      generalize (Tk.dd (srtN RR.2)).length = n11 at *
      generalize RR.1.filter (hereC cC cR cS z) = R13 at *
      generalize (RR.1.filter fun b => !hereC cC cR cS z b) = R14 at *
      generalize Tk.dd (srtN RR.2) = R11 at *
      go_wp2
      obtain ⟨r0, r1', r2⟩ := (Bx.b3 (HX.out.held 0 rfl)).1
      exact bodyPost_ret (v := .agg #[.slice A13 n13 c13, .slice A14 n14 c14, .slice A11 n11 c11]) (by simp [results, Tryz.results13, go_sem, r0, r1', r2]) rfl (RS.out _ HX.out)
end Go.Proofs.YtljaahemlcaffaaGreat
