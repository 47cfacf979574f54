/- The law BufferLooks, walked. Written by wip/tools/genbulaw.py. -/
import Derived.Test.YteollbioeamciaaKBuL2
import Derived.Test.YteollbioeamciaaKBuG
import Derived.Stop.RegionWithIn
import Derived.Sort.CutIn
namespace Go.Proofs.Yteollbioeamciaa
open Go.RowKit Go.Shelf Pz Ar Bu Sp
set_option linter.unusedVariables false
set_option linter.unusedSimpArgs false

attribute [local go_sem] Oper.semAt_some
theorem withAct {F : Fence} {n : Nat} {P : Program} {c : Code} {Q : Exit → Act → World → Prop} {a : Act} {w : World} (h : ∀ a0, a0 = a → c.wpIn F n P Q a w) : c.wpIn F n P Q a w := h a rfl
theorem b_each (k m xs xi xg xm xx xy xvx xvy xh xp xl : Int) (V : World) : (Instr.build DTY #[(0, .int .i64 k), (1, .agg #[.int .i64 xs, .int .i64 xi, .int .i64 xg, .int .i64 xm, .int .i64 xx, .int .i64 xy, .int .i64 xvx, .int .i64 xvy, .int .i64 xh, .int .i64 xp, .int .i64 xl]), (2, .int .i64 m)]).run Try.prog V = .ok (.agg #[.int .i64 k, .int .i64 xs, .int .i64 xi, .int .i64 xg, .int .i64 xm, .int .i64 xx, .int .i64 xy, .int .i64 xvx, .int .i64 xvy, .int .i64 xh, .int .i64 xp, .int .i64 xl, .int .i64 m]) V := by kernel_rfl
theorem b_one (p0 p1 p2 p3 p4 p5 p6 p7 p8 p9 p10 p11 p12 : Int) (V : World) : (Instr.buildSlice DLT 1 #[(0, .agg #[.int .i64 p0, .int .i64 p1, .int .i64 p2, .int .i64 p3, .int .i64 p4, .int .i64 p5, .int .i64 p6, .int .i64 p7, .int .i64 p8, .int .i64 p9, .int .i64 p10, .int .i64 p11, .int .i64 p12])]).run Try.prog V = .ok (.slice (some ⟨V.heap.size, 0, none⟩) 1 1) (V.alloc (.cells #[.int .i64 p0, .int .i64 p1, .int .i64 p2, .int .i64 p3, .int .i64 p4, .int .i64 p5, .int .i64 p6, .int .i64 p7, .int .i64 p8, .int .i64 p9, .int .i64 p10, .int .i64 p11, .int .i64 p12] DTY)) := by kernel_rfl
/-- a box of one cell, stored over -/
theorem Sep.stored {w W : World} {L : List Piece} {b : Nat} {v : Value} {T : Nat} (h : Sep w (box b (.cells #[v] T) :: L) W) (u : Value) : Sep w (box b (.cells #[u] T) :: L) (W.setCell ⟨b, 0, none⟩ u) := by
  obtain ⟨G, ⟨h1, h2⟩, _, next⟩ := h.one
  exact next _ (box b (.cells #[u] T)) G (Only.set (Only.refl _ _) (a := ⟨b, 0, none⟩) (.inl ((h2 b).2 rfl)) _) ⟨Bx.set h1 u, h2⟩ fun k hk => .inl hk
set_option maxHeartbeats 16000000 in
set_option maxRecDepth 100000 in
theorem law_looks (w : World) (A1 : Option Addr) (c1 : Nat) (p0 : List De) (pc : p0.length ≤ c1) (pcap : c1 ≤ 140737488351232) (pF : ∀ x ∈ p0, Fit x.b.m ∧ Fit x.m) (pR : RdDe w w.heap.size A1 p0) (k m : Int) :
    Calls Try.prog 6 #[.slice A1 p0.length c1, .int .i64 k, .int .i64 m] w fun e w' => e = .returned (.bool true) ∧ Below w.heap.size w w' := by
  have FWp := Lib.hid fun W (hW : Below w.heap.size w W) => few_any ((pR.below hW).more hW.size) pc pcap
  obtain ⟨p, hlp⟩ : ∃ l, l = p0.take 60 := ⟨_, rfl⟩
  have h6p : p.length ≤ 60 := by rw [hlp, List.length_take]; omega
  have RXp := Lib.hid fun W (hW : Below w.heap.size w W) => (pR.take 60).below hW
  rw [← hlp] at RXp FWp
  clear hlp pR pF pc pcap
  have hp6 : (p.length : Int) ≤ 60 := by omega
  obtain ⟨t1, ht1⟩ : ∃ t, t = bdos T0 p := ⟨_, rfl⟩
  have e1 : Hid (bdos T0 (p.take p.length) = t1) := Lib.hid (by rw [List.take_length, ht1])
  have l1 : Le t1 60 := by
    have := le_few h6p p.length
    rw [List.take_length] at this
    rw [ht1]; exact this
  have gg : Ar.Good t1 := by rw [ht1]; exact good_bdos p good_none
  clear ht1
  obtain ⟨N, hN⟩ : ∃ N, N = total t1 := ⟨_, rfl⟩
  have hN1 : N ≤ 10000 := by have := total_few l1 (by decide); omega
  have hfl : (all t1).length = N := by rw [hN, total_all]
  replace hN := Lib.hid hN
  have LKS := Lib.hid (looks gg k m)
  have AW := Lib.hid awake_any
  have H0 : Hid (Sep w [box (w.heap.size + 1) (.cells #[.int .i64 m] 3), box w.heap.size (.cells #[.int .i64 k] 3)] ((w.alloc (.cells #[.int .i64 k] 3)).alloc (.cells #[.int .i64 m] 3))) := Lib.hid (by
    have := sep_box (sep_box (sep_new w) (.cells #[.int .i64 k] 3)) (.cells #[.int .i64 m] 3)
    rw [size1] at this
    exact this)
  have NS := Lib.hid fun V (h : Sep w [box (w.heap.size + 1) (.cells #[.int .i64 m] 3), box w.heap.size (.cells #[.int .i64 k] 3)] V) => sep_store h
  have EQF := fun b V => eql_fun 41 b V
  generalize p0.length = n0 at *
  refine (callsIn_wide (n := 9)).1 ?_
  refine callsIn_of_wp_marks Try.func6 rfl trivial ?_ rfl
  simp only [Try.ntmps6, List.size_toArray, List.length_cons, List.length_nil, Nat.reduceAdd, Nat.reduceSub, Array.replicate_succ, Array.replicate_zero, List.push_toArray, List.append_toArray, List.nil_append, List.cons_append]
  refine wpIn_wide.2 ?_
  go_upto_region 1 with fail
  generalize (w.alloc (.cells #[.int .i64 k] 3)).alloc (.cells #[.int .i64 m] 3) = w0 at *
  go_wp2_with (first
    | (go_at_call 14; refine (AW.out _).mono ?_; rintro e wa ⟨rfl, ba⟩; have Ha := H0.out.below ba; clear H0 ba)
    | (go_at_call 9; refine (NS.out _ Ha).mono ?_; rintro e w1 ⟨rfl, h1⟩; generalize wa.heap.size = s at *; clear NS Ha)
    | (go_at_call 10; refine (FWp.out _ h1.bel).mono ?_; rintro e w2 ⟨⟨c1', rfl, _, _⟩, rfl⟩; have h2 := Lib.hid h1; clear FWp h1))
  have h3 : Hid (Sep w [stC s (bdos T0 (p.take 0)), box (w.heap.size + 1) (.cells #[.int .i64 m] 3), box w.heap.size (.cells #[.int .i64 k] 3)] _) := h2
  clear h2
  go_loopw [8] (fun i wr => ∃ j : Nat, j ≤ p.length ∧ i = .int .i64 j ∧ Hid (Sep w [stC s (bdos T0 (p.take j)), box (w.heap.size + 1) (.cells #[.int .i64 m] 3), box w.heap.size (.cells #[.int .i64 k] 3)] wr)) (fun i _ => p.length - (intOf i).toNat)
  case atStart => exact ⟨0, Nat.zero_le _, rfl, h3⟩
  case round =>
    obtain ⟨j, hj, rfl, HP⟩ := hrel
    clear h3
    by_cases hjn : j < p.length
    · have q1 : (j : Int) < (p.length : Int) := by omega
      have hx := List.getElem?_eq_getElem hjn
      obtain ⟨g, o, rfl, _, KC⟩ := RXp.out wr HP.out.bel j _ hx
      have hLe := le_few h6p j
      have hT := bdos_take T0 hx
      have SX : Hid (Calls Try.prog 11 #[.pointer (some ⟨s, 0, none⟩), p[j].val] wr fun e V' => e = .returned (.int .i64 (bdo (bdos T0 (p.take j)) p[j]).2) ∧ Sep w [stC s (bdos T0 (p.take (j + 1))), box (w.heap.size + 1) (.cells #[.int .i64 m] 3), box w.heap.size (.cells #[.int .i64 k] 3)] V') := Lib.hid (by rw [hT]; exact HP.out.do_ p[j] hLe (by decide))
      clear RXp hLe hT hx AW LKS e1 gg hN hN1 l1 HP EQF hfl
      obtain ⟨k0, k1, k2, k3, k4, k5, k6, k7, k8, k9, k10, k11, k12⟩ := KC
      generalize (bdo (bdos T0 (p.take j)) p[j]).2 = rr at *
      simp only [De.val] at SX
      generalize p[j].k = v0 at *
      generalize p[j].b.s = v1 at *
      generalize p[j].b.i = v2 at *
      generalize p[j].b.g = v3 at *
      generalize p[j].b.m = v4 at *
      generalize p[j].b.x = v5 at *
      generalize p[j].b.y = v6 at *
      generalize p[j].b.vx = v7 at *
      generalize p[j].b.vy = v8 at *
      generalize p[j].b.h = v9 at *
      generalize p[j].b.p = v10 at *
      generalize p[j].b.l = v11 at *
      generalize p[j].m = v12 at *
      go_wp2_with (go_at_call 11; refine SX.out.mono ?_; rintro e w5 ⟨rfl, h5'⟩; have h5 := Lib.hid h5'; clear h5' SX k0 k1 k2 k3 k4 k5 k6 k7 k8 k9 k10 k11 k12)
      go_roundw
      case rel => exact ⟨j + 1, by omega, by go_num, h5⟩
      case measure => simp [intOf]; omega
    · obtain rfl : j = p.length := by omega
      have q1 : ¬ (p.length : Int) < (p.length : Int) := by omega
      have HQ : Hid (Sep w [stC s t1, box (w.heap.size + 1) (.cells #[.int .i64 m] 3), box w.heap.size (.cells #[.int .i64 k] 3)] wr) := by rw [e1.out] at HP; exact HP
      clear HP e1 RXp
      generalize p.length = np at *
      have LN : Hid (∀ V, Sep w [stC s t1, box (w.heap.size + 1) (.cells #[.int .i64 m] 3), box w.heap.size (.cells #[.int .i64 k] 3)] V → Calls Try.prog 24 #[.pointer (some ⟨s, 0, none⟩)] V fun e V' => e = .returned (.int .i64 (N : Int)) ∧ V = V') := Lib.hid fun V hV => by
        rw [hN.out]; exact hV.len 0 rfl
      have NB := Lib.hid fun V (h : Sep w [stC s t1, box (w.heap.size + 1) (.cells #[.int .i64 m] 3), box w.heap.size (.cells #[.int .i64 k] 3)] V) => sep_buf h
      have AC := Lib.hid fun W => allc_any W (.pointer (some ⟨s, 0, none⟩)) (.inr ⟨s, rfl⟩)
      have hne : ((N : Int) != (N : Int)) = false := by simp
      go_upto_region 12 with (first
        | (go_at_call 24; refine (LN.out _ HQ.out).mono ?_; rintro e w8 ⟨rfl, rfl⟩; clear LN)
        | (go_at_call 15; refine (NB.out _ HQ.out).mono ?_; rintro e w9 ⟨rfl, h9⟩; clear NB HQ; generalize wr.heap.size = q at *))
      have h10 : Sep w [box (w9.heap.size + 1) (.cells #[.int .i64 0] 3), box w9.heap.size (.cells #[.pointer (some ⟨q, 0, none⟩)] 43), buf q [], stC s t1, box (w.heap.size + 1) (.cells #[.int .i64 m] 3), box w.heap.size (.cells #[.int .i64 k] 3)] ((w9.alloc (.cells #[.pointer (some ⟨q, 0, none⟩)] 43)).alloc (.cells #[.int .i64 0] 3)) := by
        have := sep_box (sep_box h9 (.cells #[.pointer (some ⟨q, 0, none⟩)] 43)) (.cells #[.int .i64 0] 3)
        rw [size1] at this
        exact this
      clear h9
      generalize (w9.alloc (.cells #[.pointer (some ⟨q, 0, none⟩)] 43)).alloc (.cells #[.int .i64 0] 3) = w4 at *
      generalize w9.heap.size + 1 = cb at *
      generalize w9.heap.size = bb at *
      go_wp2_with (go_at_call 22; refine (AC.out _).mono ?_; rintro e w5' ⟨rfl, rfl⟩)
      have h11 : Sep w [box w4.heap.size (.cells #[.pointer (some ⟨s, 0, none⟩)] PST), box cb (.cells #[.int .i64 0] 3), box bb (.cells #[.pointer (some ⟨q, 0, none⟩)] 43), buf q [], stC s t1, box (w.heap.size + 1) (.cells #[.int .i64 m] 3), box w.heap.size (.cells #[.int .i64 k] 3)] (w4.alloc (.cells #[.pointer (some ⟨s, 0, none⟩)] PST)) := sep_box h10 _
      clear h10 AC EQF
      generalize w4.alloc (.cells #[.pointer (some ⟨s, 0, none⟩)] PST) = w5 at *
      generalize w4.heap.size = pb at *
      have hpb := h11.held 0 rfl
      have h12 : Sep w [stC s t1, box pb (.cells #[.pointer (some ⟨s, 0, none⟩)] PST), box cb (.cells #[.int .i64 0] 3), box bb (.cells #[.pointer (some ⟨q, 0, none⟩)] 43), buf q [], box (w.heap.size + 1) (.cells #[.int .i64 m] 3), box w.heap.size (.cells #[.int .i64 k] 3)] w5 := h11.pull 4 rfl
      clear h11
      obtain ⟨F, hC, hlt, h13⟩ := h12.still
      clear h12
      have hw5 : w.heap.size ≤ w5.heap.size := h13.bel.size
      refine (wpIn_wide (n := 9)).1 ?_
      refine withAct fun a0 ha0 => ?_
      refine sep_range (by omega) (gf := 41) (lb := #[.pointer (some ⟨pb, 0, none⟩)]) rfl (enters_of Try.func41 (by kernel_rfl) rfl) rfl hlt (full := all t1)
        (fun pre => [box cb (.cells #[.int .i64 (pre.length : Int)] 3), box bb (.cells #[.pointer (some ⟨q, 0, none⟩)] 43), buf q (pre.map (toE k m)), box (w.heap.size + 1) (.cells #[.int .i64 m] 3), box w.heap.size (.cells #[.int .i64 k] 3)])
        (fun x a' V => ∃ b, V.heap[b]? = some (.cells #[.int .i64 x.s, .int .i64 x.i, .int .i64 x.g, .int .i64 x.m, .int .i64 x.x, .int .i64 x.y, .int .i64 x.vx, .int .i64 x.vy, .int .i64 x.h, .int .i64 x.p, .int .i64 x.l] 36 (0, 0)) ∧ a' = (a0.put (some 37) x.val).put (some 12) (.pointer (some ⟨b, 0, none⟩)))
        (fun x a' A kk o' hT hA => ?ap) (seq_any hC hpb 8 (by omega)) ?assign ?body h13 ?done
      case ap =>
        obtain ⟨_, o, g2, g3, _⟩ := hT
        obtain ⟨b, e1, e2⟩ := hA
        exact ⟨b, cells_put e1 g2 g3, e2⟩
      case assign =>
        intro l x W K hK
        have HK := Lib.hid (hK ((a0.put (some 37) x.val).put (some 12) (.pointer (some ⟨W.heap.size, 0, none⟩))) _ (bel1 W (.cells #[.int .i64 x.s, .int .i64 x.i, .int .i64 x.g, .int .i64 x.m, .int .i64 x.x, .int .i64 x.y, .int .i64 x.vx, .int .i64 x.vy, .int .i64 x.h, .int .i64 x.p, .int .i64 x.l] 36)) ⟨W.heap.size, at1 W (.cells #[.int .i64 x.s, .int .i64 x.i, .int .i64 x.g, .int .i64 x.m, .int .i64 x.x, .int .i64 x.y, .int .i64 x.vx, .int .i64 x.vy, .int .i64 x.h, .int .i64 x.p, .int .i64 x.l] 36), rfl⟩)
        clear hK h13 hC hlt
        subst ha0
        simp only [encB, Bn.val] at *
        gi_wp2
        exact HK.out
      case body =>
        rintro pre x W a' o1 o2 HS hpre ⟨bx, hbx, rfl⟩
        have hlen : pre.length ≤ 10000 := by
          have h1 := hpre.length_le
          simp only [List.length_append, List.length_singleton] at h1
          omega
        have hcb : (Sep w [box cb (.cells #[.int .i64 (pre.length : Int)] 3), box w5.heap.size o1, box (w5.heap.size + 1) o2, keepP (fun k => F k ∨ k = pb) w5, box bb (.cells #[.pointer (some ⟨q, 0, none⟩)] 43), buf q (pre.map (toE k m)), box (w.heap.size + 1) (.cells #[.int .i64 m] 3), box w.heap.size (.cells #[.int .i64 k] 3)] W) := HS.pull 3 rfl
        have hne2 : bx ≠ cb := Bx.ne_type hbx (HS.held 3 rfl) (by decide)
        have H1 := hcb.stored (.int .i64 ((pre.length : Int) + 1))
        have kc := (Bx.b1 (HS.held 3 rfl)).1
        have kf := (Bx.b1 (HS.held 3 rfl)).2
        have hbx1 := (Bx.ne (W := W) (o := 0) hne2 (.int .i64 ((pre.length : Int) + 1))).trans hbx
        have kb := (Bx.b1 (H1.held 4 rfl)).1
        have km := (Bx.b1 (H1.held 6 rfl)).1
        have kk := (Bx.b1 (H1.held 7 rfl)).1
        obtain ⟨⟨n0, n1, n2, n3, n4, n5, n6, n7, n8, n9, n10⟩, _⟩ := Bx.b11 hbx1
        have AX : Hid (Calls Try.prog 16 #[.pointer (some ⟨q, 0, none⟩), .slice (some ⟨(W.setCell ⟨cb, 0, none⟩ (.int .i64 ((pre.length : Int) + 1))).heap.size, 0, none⟩) 1 1] ((W.setCell ⟨cb, 0, none⟩ (.int .i64 ((pre.length : Int) + 1))).alloc (.cells #[.int .i64 k, .int .i64 x.s, .int .i64 x.i, .int .i64 x.g, .int .i64 x.m, .int .i64 x.x, .int .i64 x.y, .int .i64 x.vx, .int .i64 x.vy, .int .i64 x.h, .int .i64 x.p, .int .i64 x.l, .int .i64 m] DTY)) fun e V' => e = .returned (.int .i64 0) ∧ Sep w [box w5.heap.size o1, box (w5.heap.size + 1) o2, keepP (fun k => F k ∨ k = pb) w5, box cb (.cells #[.int .i64 ((pre ++ [x]).length : Int)] 3), box bb (.cells #[.pointer (some ⟨q, 0, none⟩)] 43), buf q ((pre ++ [x]).map (toE k m)), box (w.heap.size + 1) (.cells #[.int .i64 m] 3), box w.heap.size (.cells #[.int .i64 k] 3)] V') := Lib.hid (by
          have h2 : Sep w [buf q (pre.map (toE k m)), box cb (.cells #[.int .i64 ((pre.length : Int) + 1)] 3), box w5.heap.size o1, box (w5.heap.size + 1) o2, keepP (fun k => F k ∨ k = pb) w5, box bb (.cells #[.pointer (some ⟨q, 0, none⟩)] 43), box (w.heap.size + 1) (.cells #[.int .i64 m] 3), box w.heap.size (.cells #[.int .i64 k] 3)] _ := H1.pull 5 rfl
          refine ((h2.below (bel1 _ (.cells #[.int .i64 k, .int .i64 x.s, .int .i64 x.i, .int .i64 x.g, .int .i64 x.m, .int .i64 x.x, .int .i64 x.y, .int .i64 x.vx, .int .i64 x.vy, .int .i64 x.h, .int .i64 x.p, .int .i64 x.l, .int .i64 m] DTY))).add_ (A := some ⟨_, 0, none⟩) (c := 1) (y := [toE k m x]) (rd_cells (at1 _ _) (by rw [size1]; exact Nat.lt_succ_self _)) (by simp; omega)).mono fun e V' ⟨e1, e2⟩ => ⟨e1, ?_⟩
          rw [List.map_append, List.length_append]
          have a1 : Sep w [box bb (.cells #[.pointer (some ⟨q, 0, none⟩)] 43), buf q (pre.map (toE k m) ++ [toE k m x]), box cb (.cells #[.int .i64 ((pre.length : Int) + 1)] 3), box w5.heap.size o1, box (w5.heap.size + 1) o2, keepP (fun k => F k ∨ k = pb) w5, box (w.heap.size + 1) (.cells #[.int .i64 m] 3), box w.heap.size (.cells #[.int .i64 k] 3)] V' := e2.pull 5 rfl
          have a2 : Sep w [box cb (.cells #[.int .i64 ((pre.length : Int) + 1)] 3), box bb (.cells #[.pointer (some ⟨q, 0, none⟩)] 43), buf q (pre.map (toE k m) ++ [toE k m x]), box w5.heap.size o1, box (w5.heap.size + 1) o2, keepP (fun k => F k ∨ k = pb) w5, box (w.heap.size + 1) (.cells #[.int .i64 m] 3), box w.heap.size (.cells #[.int .i64 k] 3)] V' := a1.pull 2 rfl
          have a3 : Sep w [keepP (fun k => F k ∨ k = pb) w5, box cb (.cells #[.int .i64 ((pre.length : Int) + 1)] 3), box bb (.cells #[.pointer (some ⟨q, 0, none⟩)] 43), buf q (pre.map (toE k m) ++ [toE k m x]), box w5.heap.size o1, box (w5.heap.size + 1) o2, box (w.heap.size + 1) (.cells #[.int .i64 m] 3), box w.heap.size (.cells #[.int .i64 k] 3)] V' := a2.pull 5 rfl
          have a4 : Sep w [box (w5.heap.size + 1) o2, keepP (fun k => F k ∨ k = pb) w5, box cb (.cells #[.int .i64 ((pre.length : Int) + 1)] 3), box bb (.cells #[.pointer (some ⟨q, 0, none⟩)] 43), buf q (pre.map (toE k m) ++ [toE k m x]), box w5.heap.size o1, box (w.heap.size + 1) (.cells #[.int .i64 m] 3), box w.heap.size (.cells #[.int .i64 k] 3)] V' := a3.pull 5 rfl
          exact a4.pull 5 rfl)
        have B1 := fun V => b_each k m x.s x.i x.g x.m x.x x.y x.vx x.vy x.h x.p x.l V
        have B2 := fun V => b_one k x.s x.i x.g x.m x.x x.y x.vx x.vy x.h x.p x.l m V
        have q2 : IntKind.i64.wrap ((pre.length : Int) + 1) = (pre.length : Int) + 1 := IntWalk.i64_in _ ⟨by omega, by omega⟩
        have q3 : (pre.length : Int) ≤ 10000 := by omega
        clear HS hcb hpre hbx h13 hC hlt H1 hbx1 hne2 LKS AW
        subst ha0
        simp only [Bn.val] at *
        gi_upto_region 15 with fail
        clear kc kf
        generalize W.setCell ⟨cb, 0, none⟩ (.int .i64 ((pre.length : Int) + 1)) = W1 at *
        gi_wp2_with (refine ⟨trivial, ?_⟩; gi_at_call 16; refine (CallsIn.inRound (w5.heap.size + 1) (callsIn_wide.2 AX.out)).mono ?_; rintro e w6 ⟨rfl, HX⟩)
        exact HX
      case done =>
        intro W HW0
        have hD := Bx.lt (HW0.held 0 rfl)
        have HW : Sep w [box w5.heap.size (.deferred (some [])), keepP (fun k => F k ∨ k = pb) w5, box cb (.cells #[.int .i64 ((all t1).length : Int)] 3), box bb (.cells #[.pointer (some ⟨q, 0, none⟩)] 43), buf q ((all t1).map (toE k m)), box (w.heap.size + 1) (.cells #[.int .i64 m] 3), box w.heap.size (.cells #[.int .i64 k] 3)] W := HW0
        rw [hfl] at HW
        have hdl : ((all t1).map (toE k m)).length = N := by rw [List.length_map, hfl]
        obtain ⟨t2, ht2⟩ : ∃ t, t = bdos t1 ((all t1).map (toE k m)) := ⟨_, rfl⟩
        obtain ⟨S, hS⟩ : ∃ t, t = said t1 ((all t1).map (toE k m)) := ⟨_, rfl⟩
        have LK := LKS.out
        rw [← ht2, ← hS, ← hN.out] at LK
        have H2 : Sep w [stC s t1, box w5.heap.size (.deferred (some [])), box cb (.cells #[.int .i64 (N : Int)] 3), box bb (.cells #[.pointer (some ⟨q, 0, none⟩)] 43), buf q ((all t1).map (toE k m)), box (w.heap.size + 1) (.cells #[.int .i64 m] 3), box w.heap.size (.cells #[.int .i64 k] 3)] W := (show Sep w [keepP (fun k => F k ∨ k = pb) w5, box w5.heap.size (.deferred (some [])), box cb (.cells #[.int .i64 (N : Int)] 3), box bb (.cells #[.pointer (some ⟨q, 0, none⟩)] 43), buf q ((all t1).map (toE k m)), box (w.heap.size + 1) (.cells #[.int .i64 m] 3), box w.heap.size (.cells #[.int .i64 k] 3)] W from HW.pull 1 rfl).store hC (Nat.le_of_lt hD)
        have kb := (Bx.b1 (H2.held 3 rfl)).1
        have FL : Hid (Calls Try.prog 19 #[.pointer (some ⟨q, 0, none⟩), .pointer (some ⟨s, 0, none⟩)] W fun e V => ∃ A c, e = .returned (.slice A N c) ∧ Sep w [rowE (.slice A N c) S, stC s t2, buf q [], box w5.heap.size (.deferred (some [])), box cb (.cells #[.int .i64 (N : Int)] 3), box bb (.cells #[.pointer (some ⟨q, 0, none⟩)] 43), box (w.heap.size + 1) (.cells #[.int .i64 m] 3), box w.heap.size (.cells #[.int .i64 k] 3)] V) := Lib.hid (by
          have h3 : Sep w [buf q ((all t1).map (toE k m)), stC s t1, box w5.heap.size (.deferred (some [])), box cb (.cells #[.int .i64 (N : Int)] 3), box bb (.cells #[.pointer (some ⟨q, 0, none⟩)] 43), box (w.heap.size + 1) (.cells #[.int .i64 m] 3), box w.heap.size (.cells #[.int .i64 k] 3)] W := H2.pull 4 rfl
          have h4 : Sep w [stC s t1, buf q ((all t1).map (toE k m)), box w5.heap.size (.deferred (some [])), box cb (.cells #[.int .i64 (N : Int)] 3), box bb (.cells #[.pointer (some ⟨q, 0, none⟩)] 43), box (w.heap.size + 1) (.cells #[.int .i64 m] 3), box w.heap.size (.cells #[.int .i64 k] 3)] W := h3.pull 1 rfl
          have := h4.flush l1 (by rw [hdl]; omega)
          rw [hdl, ← hS, ← ht2] at this
          exact this)
        have CE : Hid (∀ A c V, Sep w [rowE (.slice A N c) S, stC s t2, buf q [], box w5.heap.size (.deferred (some [])), box cb (.cells #[.int .i64 (N : Int)] 3), box bb (.cells #[.pointer (some ⟨q, 0, none⟩)] 43), box (w.heap.size + 1) (.cells #[.int .i64 m] 3), box w.heap.size (.cells #[.int .i64 k] 3)] V → V.cell? ⟨cb, 0, none⟩ = some (.int .i64 (N : Int)) ∧ V.cell? ⟨w.heap.size + 1, 0, none⟩ = some (.int .i64 m) ∧ V.cell? ⟨w.heap.size, 0, none⟩ = some (.int .i64 k)) := Lib.hid fun A c V hV => ⟨(Bx.b1 (hV.held 4 rfl)).1, (Bx.b1 (hV.held 6 rfl)).1, (Bx.b1 (hV.held 7 rfl)).1⟩
        have LN2 : Hid (∀ A c V, Sep w [rowE (.slice A N c) S, stC s t2, buf q [], box w5.heap.size (.deferred (some [])), box cb (.cells #[.int .i64 (N : Int)] 3), box bb (.cells #[.pointer (some ⟨q, 0, none⟩)] 43), box (w.heap.size + 1) (.cells #[.int .i64 m] 3), box w.heap.size (.cells #[.int .i64 k] 3)] V → Calls Try.prog 24 #[.pointer (some ⟨s, 0, none⟩)] V fun e V' => e = .returned (.int .i64 (total t2 : Int)) ∧ V = V') := Lib.hid fun A c V hV => hV.len 1 rfl
        have CLO : Hid (∀ A c V, Sep w [rowE (.slice A N c) S, stC s t2, buf q [], box w5.heap.size (.deferred (some [])), box cb (.cells #[.int .i64 (N : Int)] 3), box bb (.cells #[.pointer (some ⟨q, 0, none⟩)] 43), box (w.heap.size + 1) (.cells #[.int .i64 m] 3), box w.heap.size (.cells #[.int .i64 k] 3)] V → V.heap[w5.heap.size]? = some (.deferred (some [])) ∧ Below w.heap.size w (V.putObj w5.heap.size (.deferred none))) := Lib.hid fun A c V hV => (show Sep w [box w5.heap.size (.deferred (some [])), rowE (.slice A N c) S, stC s t2, buf q [], box cb (.cells #[.int .i64 (N : Int)] 3), box bb (.cells #[.pointer (some ⟨q, 0, none⟩)] 43), box (w.heap.size + 1) (.cells #[.int .i64 m] 3), box w.heap.size (.cells #[.int .i64 k] 3)] V from hV.pull 3 rfl).closed hw5
        clear HW0 HW H2 h13 hC hlt hpb hD hdl ht2 LKS gg l1 ha0
        have hee : ((N : Int) == (N : Int)) = true := by simp
        by_cases hk2 : k = 2
        · have h0 := LK.2 hk2
          rw [h0] at LN2
          subst hk2
          clear LK hS h0
          go_wp2_with (first
            | (go_at_call 19; refine FL.out.mono ?_; rintro e w6 ⟨A, c, rfl, h6⟩; clear FL kb; obtain ⟨k1, k2, k3⟩ := CE.out _ _ _ h6)
            | (go_at_call 24; refine (LN2.out _ _ _ h6).mono ?_; rintro e w7 ⟨rfl, rfl⟩; clear LN2)
            | (go_at_call 14; refine (AW.out _).mono ?_; rintro e w8 ⟨rfl, b8⟩; have h8 := h6.below b8; clear AW))
          refine ⟨by simp, .inl ⟨_, _, rfl, run_takeDeferred (CLO.out _ _ _ h8).1, ?_⟩⟩
          exact ⟨_, results_tmp rfl _ _ _, rfl, (CLO.out _ _ _ h8).2⟩
        · obtain ⟨hSS, h0⟩ := LK.1 hk2
          rw [h0] at LN2
          have NUM : Hid (∀ z, codeE k m = z → ∀ A c V, Sep w [rowE (.slice A N c) S, stC s t2, buf q [], box w5.heap.size (.deferred (some [])), box cb (.cells #[.int .i64 (N : Int)] 3), box bb (.cells #[.pointer (some ⟨q, 0, none⟩)] 43), box (w.heap.size + 1) (.cells #[.int .i64 m] 3), box w.heap.size (.cells #[.int .i64 k] 3)] V → ∀ j : Nat, j < N → ∃ g o, A = some ⟨g, o, none⟩ ∧ V.cell? ⟨g, o + j, none⟩ = some (.int .i64 z)) := Lib.hid fun z hz A c V hV j hj => by
            obtain ⟨g, o, e, _, _, h⟩ := num_at' (hV.rows 0 rfl) (j := j) (x := z) (by rw [hSS, List.getElem?_map, List.getElem?_eq_getElem (by omega), ← hz]; rfl)
            exact ⟨g, o, e, h⟩
          clear LK hS hSS h0 hN
          have f2 : (k == 2) = false := by simpa using hk2
          by_cases hk3 : k = 3
          · subst hk3
            have NZ := NUM.out 0 (by unfold codeE; rw [if_neg (by decide), if_pos rfl])
            replace NZ := Lib.hid NZ
            clear NUM hk2 hfl
            go_upto_region 24 with (go_at_call 19; refine FL.out.mono ?_; rintro e w6 ⟨A, c, rfl, h6'⟩; have h6 := Lib.hid h6'; clear FL kb h6'; obtain ⟨k1, k2, k3⟩ := CE.out _ _ _ h6.out)
            go_wp2
            go_loopw [14] (fun i wq => ∃ j : Nat, j ≤ N ∧ i = .int .i64 j ∧ Hid (Sep w [rowE (.slice A N c) S, stC s t2, buf q [], box w5.heap.size (.deferred (some [])), box cb (.cells #[.int .i64 (N : Int)] 3), box bb (.cells #[.pointer (some ⟨q, 0, none⟩)] 43), box (w.heap.size + 1) (.cells #[.int .i64 m] 3), box w.heap.size (.cells #[.int .i64 3] 3)] wq)) (fun i _ => N - (intOf i).toNat)
            case atStart => exact ⟨0, Nat.zero_le _, rfl, h6⟩
            case round =>
              obtain ⟨j, hj, rfl, HP⟩ := hrel
              clear h6 k1 k2 k3
              by_cases hjn : j < N
              · have q1 : (j : Int) < (N : Int) := by omega
                obtain ⟨g, o, rfl, n1⟩ := NZ.out _ _ _ HP.out j hjn
                obtain ⟨_, k2, k3⟩ := CE.out _ _ _ HP.out
                have NX : Hid (∀ n, Sep w [rowE (.slice (some ⟨g, o, none⟩) N c) S, stC s t2, buf q [], box w5.heap.size (.deferred (some [])), box cb (.cells #[.int .i64 (N : Int)] 3), box bb (.cells #[.pointer (some ⟨q, 0, none⟩)] 43), box (w.heap.size + 1) (.cells #[.int .i64 m] 3), box w.heap.size (.cells #[.int .i64 3] 3)] (wr.drewN n)) := Lib.hid fun n => HP.out.below (Below.dn' (Below.refl _ _) n)
                clear NZ CE LN2 CLO AW
                go_upto_region 27 with fail
                go_quiet (fail)
                go_wp2
                go_roundw
                case rel => exact ⟨j + 1, by omega, by go_num, by first | exact Lib.hid (NX.out _) | exact HP⟩
                case measure => simp [intOf]; omega
              · obtain rfl : j = N := by omega
                have q1 : ¬ (j : Int) < (j : Int) := by omega
                clear NZ CE
                have h6 := HP.out
                clear HP
                go_wp2_with (first
                  | (go_at_call 24; refine (LN2.out _ _ _ h6).mono ?_; rintro e w7 ⟨rfl, rfl⟩; clear LN2)
                  | (go_at_call 14; refine (AW.out _).mono ?_; rintro e w8 ⟨rfl, b8⟩; have h8 := h6.below b8; clear AW))
                refine ⟨by simp, .inl ⟨_, _, rfl, run_takeDeferred (CLO.out _ _ _ h8).1, ?_⟩⟩
                exact ⟨_, results_tmp rfl _ _ _, rfl, (CLO.out _ _ _ h8).2⟩
          · by_cases hk4 : k = 4
            · subst hk4
              have pb := pos_bit m
              cases hb : bitB m 0 with
              | true =>
                rw [hb] at pb
                have NZ := NUM.out 1 (by unfold codeE; rw [if_neg (by decide), if_neg (by decide), if_pos rfl, hb]; rfl)
                replace NZ := Lib.hid NZ
                simp only [Bool.not_true] at pb
                clear NUM hk2 hfl hb
                go_upto_region 24 with (go_at_call 19; refine FL.out.mono ?_; rintro e w6 ⟨A, c, rfl, h6'⟩; have h6 := Lib.hid h6'; clear FL kb h6'; obtain ⟨k1, k2, k3⟩ := CE.out _ _ _ h6.out)
                go_wp2
                go_loopw [14] (fun i wq => ∃ j : Nat, j ≤ N ∧ i = .int .i64 j ∧ Hid (Sep w [rowE (.slice A N c) S, stC s t2, buf q [], box w5.heap.size (.deferred (some [])), box cb (.cells #[.int .i64 (N : Int)] 3), box bb (.cells #[.pointer (some ⟨q, 0, none⟩)] 43), box (w.heap.size + 1) (.cells #[.int .i64 m] 3), box w.heap.size (.cells #[.int .i64 4] 3)] wq)) (fun i _ => N - (intOf i).toNat)
                case atStart => exact ⟨0, Nat.zero_le _, rfl, h6⟩
                case round =>
                  obtain ⟨j, hj, rfl, HP⟩ := hrel
                  clear h6 k1 k2 k3
                  by_cases hjn : j < N
                  · have q1 : (j : Int) < (N : Int) := by omega
                    obtain ⟨g, o, rfl, n1⟩ := NZ.out _ _ _ HP.out j hjn
                    obtain ⟨_, k2, k3⟩ := CE.out _ _ _ HP.out
                    have NX : Hid (∀ n, Sep w [rowE (.slice (some ⟨g, o, none⟩) N c) S, stC s t2, buf q [], box w5.heap.size (.deferred (some [])), box cb (.cells #[.int .i64 (N : Int)] 3), box bb (.cells #[.pointer (some ⟨q, 0, none⟩)] 43), box (w.heap.size + 1) (.cells #[.int .i64 m] 3), box w.heap.size (.cells #[.int .i64 4] 3)] (wr.drewN n)) := Lib.hid fun n => HP.out.below (Below.dn' (Below.refl _ _) n)
                    clear NZ CE LN2 CLO AW
                    go_upto_region 27 with fail
                    go_quiet (fail)
                    go_wp2
                    go_roundw
                    case rel => exact ⟨j + 1, by omega, by go_num, by first | exact Lib.hid (NX.out _) | exact HP⟩
                    case measure => simp [intOf]; omega
                  · obtain rfl : j = N := by omega
                    have q1 : ¬ (j : Int) < (j : Int) := by omega
                    clear NZ CE
                    have h6 := HP.out
                    clear HP
                    go_wp2_with (first
                      | (go_at_call 24; refine (LN2.out _ _ _ h6).mono ?_; rintro e w7 ⟨rfl, rfl⟩; clear LN2)
                      | (go_at_call 14; refine (AW.out _).mono ?_; rintro e w8 ⟨rfl, b8⟩; have h8 := h6.below b8; clear AW))
                    refine ⟨by simp, .inl ⟨_, _, rfl, run_takeDeferred (CLO.out _ _ _ h8).1, ?_⟩⟩
                    exact ⟨_, results_tmp rfl _ _ _, rfl, (CLO.out _ _ _ h8).2⟩
              | false =>
                rw [hb] at pb
                have NZ := NUM.out 0 (by unfold codeE; rw [if_neg (by decide), if_neg (by decide), if_pos rfl, hb]; rfl)
                replace NZ := Lib.hid NZ
                simp only [Bool.not_false] at pb
                clear NUM hk2 hfl hb
                go_upto_region 24 with (go_at_call 19; refine FL.out.mono ?_; rintro e w6 ⟨A, c, rfl, h6'⟩; have h6 := Lib.hid h6'; clear FL kb h6'; obtain ⟨k1, k2, k3⟩ := CE.out _ _ _ h6.out)
                go_wp2
                go_loopw [14] (fun i wq => ∃ j : Nat, j ≤ N ∧ i = .int .i64 j ∧ Hid (Sep w [rowE (.slice A N c) S, stC s t2, buf q [], box w5.heap.size (.deferred (some [])), box cb (.cells #[.int .i64 (N : Int)] 3), box bb (.cells #[.pointer (some ⟨q, 0, none⟩)] 43), box (w.heap.size + 1) (.cells #[.int .i64 m] 3), box w.heap.size (.cells #[.int .i64 4] 3)] wq)) (fun i _ => N - (intOf i).toNat)
                case atStart => exact ⟨0, Nat.zero_le _, rfl, h6⟩
                case round =>
                  obtain ⟨j, hj, rfl, HP⟩ := hrel
                  clear h6 k1 k2 k3
                  by_cases hjn : j < N
                  · have q1 : (j : Int) < (N : Int) := by omega
                    obtain ⟨g, o, rfl, n1⟩ := NZ.out _ _ _ HP.out j hjn
                    obtain ⟨_, k2, k3⟩ := CE.out _ _ _ HP.out
                    have NX : Hid (∀ n, Sep w [rowE (.slice (some ⟨g, o, none⟩) N c) S, stC s t2, buf q [], box w5.heap.size (.deferred (some [])), box cb (.cells #[.int .i64 (N : Int)] 3), box bb (.cells #[.pointer (some ⟨q, 0, none⟩)] 43), box (w.heap.size + 1) (.cells #[.int .i64 m] 3), box w.heap.size (.cells #[.int .i64 4] 3)] (wr.drewN n)) := Lib.hid fun n => HP.out.below (Below.dn' (Below.refl _ _) n)
                    clear NZ CE LN2 CLO AW
                    go_upto_region 27 with fail
                    go_quiet (fail)
                    go_wp2
                    go_roundw
                    case rel => exact ⟨j + 1, by omega, by go_num, by first | exact Lib.hid (NX.out _) | exact HP⟩
                    case measure => simp [intOf]; omega
                  · obtain rfl : j = N := by omega
                    have q1 : ¬ (j : Int) < (j : Int) := by omega
                    clear NZ CE
                    have h6 := HP.out
                    clear HP
                    go_wp2_with (first
                      | (go_at_call 24; refine (LN2.out _ _ _ h6).mono ?_; rintro e w7 ⟨rfl, rfl⟩; clear LN2)
                      | (go_at_call 14; refine (AW.out _).mono ?_; rintro e w8 ⟨rfl, b8⟩; have h8 := h6.below b8; clear AW))
                    refine ⟨by simp, .inl ⟨_, _, rfl, run_takeDeferred (CLO.out _ _ _ h8).1, ?_⟩⟩
                    exact ⟨_, results_tmp rfl _ _ _, rfl, (CLO.out _ _ _ h8).2⟩
            · have f3 : (k == 3) = false := by simpa using hk3
              have f4 : (k == 4) = false := by simpa using hk4
              clear NUM hk2 hk3 hk4 hfl
              go_wp2_with (first
                | (go_at_call 19; refine FL.out.mono ?_; rintro e w6 ⟨A, c, rfl, h6⟩; clear FL kb; obtain ⟨k1, k2, k3⟩ := CE.out _ _ _ h6)
                | (go_at_call 24; refine (LN2.out _ _ _ h6).mono ?_; rintro e w7 ⟨rfl, rfl⟩; clear LN2)
                | (go_at_call 14; refine (AW.out _).mono ?_; rintro e w8 ⟨rfl, b8⟩; have h8 := h6.below b8; clear AW))
              refine ⟨by simp, .inl ⟨_, _, rfl, run_takeDeferred (CLO.out _ _ _ h8).1, ?_⟩⟩
              exact ⟨_, results_tmp rfl _ _ _, rfl, (CLO.out _ _ _ h8).2⟩
end Go.Proofs.Yteollbioeamciaa
