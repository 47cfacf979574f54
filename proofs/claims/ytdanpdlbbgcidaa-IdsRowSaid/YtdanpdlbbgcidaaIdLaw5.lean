/- The law IdsRow, walked. Written by wip/tools/genrow.py. -/
import Derived.Test.YtdanpdlbbgcidaaIdRowW
import Derived.Test.YtdanpdlbbgcidaaIdFree
import Derived.Deep.DeepCutAuto
namespace Go.Proofs.Ytdanpdlbbgcidaa
open Go.RowKit Ids
set_option linter.unusedVariables false

theorem half_index' {n : Int} (hn : -9223372036854775808 ≤ n ∧ n ≤ 9223372036854775807) (c : Int) (hc : 2 ≤ c) : IntKind.i64.wrap (n.tdiv c) = n.tdiv c := by
  refine IntWalk.i64_in _ ?_
  have key : ∀ a : Int, 0 ≤ a → 0 ≤ a.tdiv c ∧ a.tdiv c ≤ a := fun a ha => by
    rw [Int.tdiv_eq_ediv_of_nonneg ha]
    exact ⟨Int.ediv_nonneg ha (by omega), Int.ediv_le_self c ha⟩
  rcases Int.le_total 0 n with h | h
  · have := key n h; omega
  · have h1 := key (-n) (by omega)
    have : n.tdiv c = -((-n).tdiv c) := by rw [Int.neg_tdiv, Int.neg_neg]
    rw [this]; omega
theorem div_mod' (n c : Int) (m : Nat) (W : World) (hm : 0 < m) (hm2 : m ≤ 1000) : Calls Try.prog 14 #[.int .i64 (n.tdiv c), .int .i64 (m : Int)] W fun e w' => ∃ z : Nat, z < m ∧ e = .returned (.int .i64 (z : Int)) ∧ W = w' := by
  refine (mod_any (n.tdiv c) (m : Int) W (by omega) (by omega)).mono ?_
  rintro e w' ⟨rfl, rfl⟩
  have g1 := Int.emod_nonneg (n.tdiv c) (show (m : Int) ≠ 0 by omega)
  have g2 := Int.emod_lt_of_pos (n.tdiv c) (show (0 : Int) < (m : Int) by omega)
  exact ⟨(n.tdiv c % (m : Int)).toNat, by omega, by rw [show (((n.tdiv c % (m : Int)).toNat : Nat) : Int) = n.tdiv c % (m : Int) by omega], rfl⟩
structure Rn (w : World) (d : Nat) (p : Pl) (m j : Nat) (v u : Value) (K : St) (L : List Nat) (W : World) : Prop where
  h1 : H1 w d p K (fun W => Two W p.hi v u (nms K (K.row 0)) (nms K L)) W
  inv : RowI m j K L
set_option maxHeartbeats 16000000 in
set_option maxRecDepth 100000 in
theorem law_row (w : World) (many : Int) (_ : -9223372036854775808 ≤ many ∧ many ≤ 9223372036854775807) (A : Option Addr) (cap : Nat) (l : List Int) (hlc : l.length ≤ cap) (hcap : cap ≤ 140737488351232) (hi : I64 l) (hR : Reads w w.heap.size A (ints l)) :
    Calls Try.prog 5 #[.int .i64 many, .slice A l.length cap] w fun e w' => e = .returned (.bool true) ∧ Below w.heap.size w w' := by
  have M0 : Hid (∀ W, Calls Try.prog 14 #[.int .i64 many, .int .i64 16] W fun e w' => e = .returned (.int .i64 (many % 16)) ∧ W = w') := Lib.hid (fun W => mod_any many 16 W (by decide) (by decide))
  obtain ⟨m, hm, hm1, hm4⟩ : ∃ m : Nat, (1 : Int) + many % 16 = (m : Int) ∧ 1 ≤ m ∧ m ≤ 16 := by
    have h2 := Int.emod_lt_of_pos many (show (0 : Int) < 16 by decide)
    have h3 := Int.emod_nonneg many (show (16 : Int) ≠ 0 by decide)
    exact ⟨(1 + many % 16).toNat, by omega, by omega, by omega⟩
  have hmq : 0 ≤ many % 16 ∧ many % 16 ≤ 15 := by
    have h2 := Int.emod_lt_of_pos many (show (0 : Int) < 16 by decide)
    have h3 := Int.emod_nonneg many (show (16 : Int) ≠ 0 by decide)
    omega
  obtain ⟨hmq1, hmq2⟩ := hmq
  generalize many % 16 = q4 at *
  obtain ⟨d, hd⟩ : ∃ d, d = w.heap.size := ⟨_, rfl⟩
  have N0 := h1_new w (n := 1) (m := m) (by decide) (by decide) hm1 (by omega)
  rw [← hd] at N0
  have N : Hid (Calls Try.prog 9 #[.int .i64 1, .int .i64 (m : Int)] w fun e w' => e = .returned (.tuple #[.pointer (some ⟨d, 0, none⟩), .int .i64 0]) ∧ ∃ p, H1 w d p (new 1 m) (fun _ => True) w' ∧ p.hi = w'.heap.size) := N0
  clear N0 hd
  have HR := Lib.hid hR
  have HI := Lib.hid hi
  clear hR hi
  have hl0 : (l.length : Int) ≤ 140737488351232 := by omega
  have hm1' : 1 ≤ (m : Int) := by omega
  have hm4' : (m : Int) ≤ 16 := by omega
  go_enter Try.func5, Try.ntmps5
  go_wp2_with (first
    | (go_at_call 14; refine (M0.out _).mono ?_; rintro e w' ⟨rfl, rfl⟩; clear M0)
    | (go_at_call 9; refine N.out.mono ?_; rintro e w1 ⟨rfl, p, h1, hp1⟩; clear N hm))
  have s0 : Hid (H1 w d p (new 1 m) (fun W => Two W p.hi (.slice none 0 0) (.slice none 0 0) (nms (new 1 m) (List.range 0)) []) w1) := Lib.hid (h1.imp (fun _ => ⟨rw_nil _ _, rw_nil _ _, fun b hb => by cases hb⟩) (kept_two' _ _ _ _ _))
  clear h1 hp1
  go_loopw [7, 8] (fun v i wr => ∃ z : Nat, z ≤ m ∧ i = .int .i64 z ∧ Hid (H1 w d p (new 1 m) (fun W => Two W p.hi v (.slice none 0 0) (nms (new 1 m) (List.range z)) []) wr)) (fun _ i _ => m - (intOf i).toNat)
  case atStart => exact ⟨0, Nat.zero_le _, rfl, s0⟩
  case round =>
    obtain ⟨z, hz, rfl, HZ⟩ := hrel
    clear s0
    by_cases hzl : z < m
    · have t1 : (z : Int) < (m : Int) := by omega
      obtain ⟨v', w5, ⟨A5, c5, f5⟩, HRUN, h6⟩ := pushR HZ.out (by rw [nms_len, List.length_range]; omega) ((0 : Int), (z : Int), (0 : Int))
      have f6 : v' = .slice A5 (z + 1) c5 := by rw [f5, List.length_append, nms_len, List.length_range]; rfl
      subst f6
      clear f5
      have h6 := Lib.hid h6
      rw [show nms (new 1 m) (List.range z) ++ [((0 : Int), (z : Int), (0 : Int))] = nms (new 1 m) (List.range (z + 1)) by rw [List.range_succ, nms_app]; rfl] at h6
      clear HZ
      go_wp2_with (at_builtin; refine wpList_append _ rfl (.tmp 38) (.tmp 41) _ _ rfl _ (.slice (some ⟨_, 0, none⟩) 1 1) rfl rfl _ _ HRUN.out ?_; clear HRUN)
      go_roundw
      case rel => exact ⟨z + 1, by omega, by go_num, h6⟩
      case measure => simp [intOf]; omega
    · have t1 : ¬ (z : Int) < (m : Int) := by omega
      obtain rfl : z = m := by omega
      have s1 : Hid (Rn w d p z 0 _ (.slice none 0 0) (new 1 z) [] wr) := Lib.hid ⟨HZ.out, RowI.new z⟩
      clear HZ hzl
      go_wp2_with (fail)
      go_loopw [10, 7, 9] (fun i v u wr => ∃ (j : Nat) (K : St) (L : List Nat), j ≤ l.length ∧ j ≤ 80 ∧ i = .int .i64 j ∧ Hid (Rn w d p z j v u K L wr)) (fun i _ _ _ => l.length - (intOf i).toNat)
      case atStart => exact ⟨0, _, [], Nat.zero_le _, by omega, rfl, s1⟩
      case round =>
        obtain ⟨j, K, L, hj, hj80, rfl, HA⟩ := hrel
        clear s1
        obtain ⟨A7, c7, rfl⟩ := HA.out.h1.own.r.form
        obtain ⟨A8, c8, rfl⟩ := HA.out.h1.own.h.form
        have hgl := nms_len K (K.row 0)
        have htl := nms_len K L
        replace HA : Hid (Rn w d p z j (.slice A7 (K.row 0).length c7) (.slice A8 L.length c8) K L wr) := by rw [hgl, htl] at HA; exact HA
        rw [hgl, htl]
        clear hgl htl
        have okK := HA.out.h1.pa.ok
        have hLn : L.length ≤ 16 := by
          have h1 := HA.out.inv.count (by omega)
          have h2 : (list K).length ≤ K.n * K.m := lst_len _ _
          rw [HA.out.inv.kn, HA.out.inv.km] at h2
          omega
        have hRn : (K.row 0).length ≤ 16 := by have := okK.len (k := 0) (by have := okK.n1; omega); have := okK.m2; omega
        by_cases hjl : j < l.length
        · have t1 : (j : Int) < (l.length : Int) := by omega
          by_cases hj8 : j < 80
          · have t2 : (j : Int) < 80 := by omega
            obtain ⟨b, off, rfl, hbB, hc0⟩ := HR.out.at_ (k := j) (by simpa [ints] using hjl)
            have hI := HI.out l[j] (List.getElem_mem hjl)
            have HC : Hid (∀ W, Below w.heap.size w W → W.cell? ⟨b, off + j, none⟩ = some (.int .i64 l[j])) := Lib.hid fun W hW => by
              rw [hW.cell (p := ⟨b, off + j, none⟩) hbB, hc0]
              simp [ints]
            have c0 := HC.out wr HA.out.h1.bel
            clear hc0 HR HI HC
            generalize l[j] = n at *
            have MD2 := Lib.hid (fun W => mod_any n 2 W (by decide) (by decide))
            generalize n % 2 = m2 at *
            by_cases eA : m2 = 0 ∧ K.row 0 ≠ []
            · obtain ⟨e2, eR⟩ := eA
              have t3 : (m2 == 0) = true := beq_iff_eq.2 e2
              clear e2
              obtain ⟨i, r, hrow⟩ := List.exists_cons_of_ne_nil eR
              clear eR
              obtain ⟨eK, INV, hrow', hH, hRr⟩ := HA.out.inv.next okK (by omega) hrow
              have hnr : (nms K (K.row 0)) = ((0 : Int), (i : Int), (K.gen 0 i : Int)) :: nms K r := by rw [hrow]; rfl
              have hlr : (K.row 0).length = r.length + 1 := by rw [hrow]; rfl
              obtain ⟨g, o, c, e7, _, _, ⟨z0, z1, z2⟩, _⟩ := id_at HA.out.h1.own.r (j := 0) (by rw [nms_len]; omega)
              rw [nms_len] at e7
              cases e7
              simp only [hnr, List.getElem_cons_zero, Nat.zero_mul, Nat.add_zero] at z0 z1 z2
              have hcn : (K.row 0).length ≤ c7 := by
                have := HA.out.h1.own.r
                rw [hnr] at this
                exact (own_tail this).2.1
              have NL : Hid (Calls Try.prog 15 #[.pointer (some ⟨d, 0, none⟩), .int .i64 0] wr fun e w' => e = .returned (.tuple #[.agg #[.int .i64 0, .int .i64 (i : Int), .int .i64 (K.gen 0 i : Int)], .int .i64 (if K.gen 0 i < K.bnd 0 i then -1 else (i : Int)), .bool true]) ∧ H1 w d p (N1 K 0 i) (fun W => Two W p.hi (.slice (some ⟨g, o, none⟩) (K.row 0).length c7) (.slice A8 L.length c8) (nms K (K.row 0)) (nms K L)) w') := Lib.hid (HA.out.h1.nxt 0 eK)
              have RZ : Hid (∀ W, H1 w d p (N1 K 0 i) (fun W => Two W p.hi (.slice (some ⟨g, o, none⟩) (K.row 0).length c7) (.slice A8 L.length c8) (nms K (K.row 0)) (nms K L)) W → W.cell? ⟨g, o, none⟩ = some (.int .i64 0) ∧ W.cell? ⟨g, o + 1, none⟩ = some (.int .i64 (i : Int)) ∧ W.cell? ⟨g, o + 2, none⟩ = some (.int .i64 (K.gen 0 i : Int))) := Lib.hid fun W hW => by
                obtain ⟨g', o', c', e', _, _, ⟨y0, y1, y2⟩, _⟩ := id_at hW.own.r (j := 0) (by rw [nms_len]; omega)
                rw [nms_len] at e'
                cases e'
                simp only [hnr, List.getElem_cons_zero, Nat.zero_mul, Nat.add_zero] at y0 y1 y2
                exact ⟨y0, y1, y2⟩
              have PU : Hid (∀ W s, H1 w d p (N1 K 0 i) (fun W => Two W p.hi (.slice (some ⟨g, o, none⟩) (K.row 0).length c7) (.slice A8 L.length c8) (nms K (K.row 0)) (nms K L)) W → W.heap.size = s → ∃ u' w', (∃ A c, u' = .slice A (L.length + 1) c) ∧ Hid ((Builtin.append_ #[40, 40] 40 #[.slice A8 L.length c8, .slice (some ⟨s, 0, none⟩) 1 1]).run Try.prog (W.alloc (.cells #[.int .i64 0, .int .i64 (i : Int), .int .i64 (K.gen 0 i : Int)] 33)) = .ok u' w') ∧
                  Hid (H1 w d p (N1 K 0 i) (fun W => Two W p.hi (.slice (if c7 = 1 then some (⟨g, o, none⟩ : Addr) else some ⟨g, o + 3, none⟩) ((K.row 0).length - 1) (c7 - 1)) u' (nms (N1 K 0 i) ((N1 K 0 i).row 0)) (nms (N1 K 0 i) (L ++ [i]))) w')) := Lib.hid fun W s hW hs => by
                subst hs
                rw [show (if c7 = 1 then some (⟨g, o, none⟩ : Addr) else some ⟨g, o + 3, none⟩) = some ⟨g, if c7 = 1 then o else o + 3, none⟩ by split <;> rfl]
                obtain ⟨u', w', ⟨A5, c5, e5⟩, r5, h5⟩ := pushH hW (by rw [nms_len]; omega) ((0 : Int), (i : Int), (K.gen 0 i : Int))
                rw [List.length_append, nms_len] at e5
                refine ⟨u', w', ⟨A5, c5, e5⟩, r5, Lib.hid (h5.imp (fun ho => ?_) (kept_two' _ _ _ _ _))⟩
                have ho2 := ho.r
                rw [hnr] at ho2
                obtain ⟨_, _, ho3⟩ := own_tail ho2
                refine ⟨?_, ?_, fun b hb => ho.ne b (by cases hb; rfl)⟩
                · rw [hrow', hRr, hlr, Nat.add_sub_cancel]
                  rw [nms_len] at ho3
                  exact ho3
                · rw [hH]; exact ho.h
              have LS : Hid (∀ W R, H1 w d p (N1 K 0 i) R W → Calls Try.prog 21 #[.pointer (some ⟨d, 0, none⟩)] W fun e w' => (∃ A c, e = .returned (.slice A (L.length + 1) c)) ∧ H1 w d p (N1 K 0 i) R w') := Lib.hid fun W R h => by
                have := h.list
                rw [INV.count (by omega), List.length_append] at this
                exact this
              have REL : Hid (∀ W v u, H1 w d p (N1 K 0 i) (fun W => Two W p.hi v u (nms (N1 K 0 i) ((N1 K 0 i).row 0)) (nms (N1 K 0 i) (L ++ [i]))) W → Rn w d p z (j + 1) v u (N1 K 0 i) (L ++ [i]) W) := Lib.hid fun W v u h => ⟨h, INV⟩
              clear INV
              have t4 : ((K.row 0).length : Int) > 0 := by omega
              have hRi : ((K.row 0).length : Int) ≤ 16 := by omega
              have hcn2 : 1 ≤ (K.row 0).length := by omega
              have hLi : (L.length : Int) ≤ 16 := by omega
              clear HA eK hrow hrow' hnr hlr hH hRr okK z0 z1 z2
              generalize (K.row 0).length = nr at *
              generalize L.length = nl at *
              generalize nms (N1 K 0 i) ((N1 K 0 i).row 0) = R9 at *
              generalize nms (N1 K 0 i) (L ++ [i]) = H9 at *
              generalize (if K.gen 0 i < K.bnd 0 i then (-1 : Int) else (i : Int)) = at9 at *
              generalize (K.gen 0 i : Int) = y3 at *
              generalize (i : Int) = y2 at *
              go_wp2_with (first
                | (go_at_call 14; refine (MD2.out _).mono ?_; rintro e w' ⟨rfl, rfl⟩; clear MD2)
                | (go_at_call 15; refine NL.out.mono ?_; rintro e w3 ⟨rfl, h3⟩; have h4 := h3.box (.cells #[.int .i64 0, .int .i64 y2, .int .i64 y3] 33); obtain ⟨⟨a0, a1, a2⟩, _⟩ := box3 h4.own.2; have h5 := h3.below (bel1 w3 (.cells #[.int .i64 0, .int .i64 y2, .int .i64 y3] 33)); obtain ⟨z0, z1, z2⟩ := RZ.out _ h5; clear NL h3 h4))
              go_quiet (fail)
              rename_i nq
              have h6 := h5.below (below_dn _ nq)
              obtain ⟨u', w7, ⟨A5, c5, rfl⟩, HRUN, h7⟩ := PU.out _ (w3.heap.size + 1) h6 (by simp)
              have a0' : ((w3.alloc (.cells #[.int .i64 0, .int .i64 y2, .int .i64 y3] 33)).drewN nq).cell? ⟨w3.heap.size, 0, none⟩ = some (.int .i64 0) := a0
              have a1' : ((w3.alloc (.cells #[.int .i64 0, .int .i64 y2, .int .i64 y3] 33)).drewN nq).cell? ⟨w3.heap.size, 1, none⟩ = some (.int .i64 y2) := a1
              have a2' : ((w3.alloc (.cells #[.int .i64 0, .int .i64 y2, .int .i64 y3] 33)).drewN nq).cell? ⟨w3.heap.size, 2, none⟩ = some (.int .i64 y3) := a2
              clear PU a0 a1 a2 z0 z1 z2 h5 h6 c0
              go_wp2_with (first
                | (at_builtin; refine wpList_append _ rfl (.tmp 79) (.tmp 81) _ _ rfl _ (.slice (some ⟨_, 0, none⟩) 1 1) rfl rfl _ _ HRUN.out ?_; clear HRUN a0' a1' a2')
                | (go_at_call 21; refine (LS.out _ _ h7.out).mono ?_; rintro e w9 ⟨⟨A9, c9, rfl⟩, h9⟩; clear LS))
              go_roundw
              case rel => exact ⟨j + 1, _, _, by omega, by omega, by go_num, Lib.hid (REL.out _ _ _ h9)⟩
              case measure => simp [intOf]; omega
            · by_cases eL : L = []
              · have t5 : ¬ (L.length : Int) > 0 := by rw [eL]; simp
                have LS := Lib.hid (HA.out.h1.list)
                rw [HA.out.inv.count (by omega)] at LS
                have INV := Lib.hid HA.out.inv
                clear HA
                by_cases e2 : m2 = 0
                · have t3 : (m2 == 0) = true := beq_iff_eq.2 e2
                  have t4 : ¬ ((K.row 0).length : Int) > 0 := by
                    have : K.row 0 = [] := Decidable.byContradiction fun h => eA ⟨e2, h⟩
                    rw [this]; simp
                  clear eA eL e2
                  go_wp2_with (first
                    | (go_at_call 14; refine (MD2.out _).mono ?_; rintro e w' ⟨rfl, rfl⟩; clear MD2)
                    | (go_at_call 21; refine LS.out.mono ?_; rintro e w9 ⟨⟨A9, c9, rfl⟩, h9⟩; clear LS))
                  go_roundw
                  case rel => exact ⟨j + 1, K, L, by omega, by omega, by go_num, Lib.hid ⟨h9, INV.out.more (by omega)⟩⟩
                  case measure => simp [intOf]; omega
                · have t3 : (m2 == 0) = false := beq_eq_false_iff_ne.2 e2
                  clear eA eL e2
                  go_wp2_with (first
                    | (go_at_call 14; refine (MD2.out _).mono ?_; rintro e w' ⟨rfl, rfl⟩; clear MD2)
                    | (go_at_call 21; refine LS.out.mono ?_; rintro e w9 ⟨⟨A9, c9, rfl⟩, h9⟩; clear LS))
                  go_roundw
                  case rel => exact ⟨j + 1, K, L, by omega, by omega, by go_num, Lib.hid ⟨h9, INV.out.more (by omega)⟩⟩
                  case measure => simp [intOf]; omega
              · have h0 : 0 < L.length := List.length_pos_iff.2 eL
                have t5 : (L.length : Int) > 0 := by omega
                clear eL
                have DV : Hid (∀ W : World, Calls Try.prog 14 #[.int .i64 (n.tdiv 2), .int .i64 (L.length : Int)] W fun e w' => ∃ z : Nat, z < L.length ∧ e = .returned (.int .i64 (z : Int)) ∧ W = w') := Lib.hid fun W => div_mod' n 2 L.length W h0 (by omega)
                have wq := half_index' hI 2 (by decide)
                by_cases e2 : m2 = 0
                · have t3 : (m2 == 0) = true := beq_iff_eq.2 e2
                  have t4 : ¬ ((K.row 0).length : Int) > 0 := by
                    have : K.row 0 = [] := Decidable.byContradiction fun h => eA ⟨e2, h⟩
                    rw [this]; simp
                  clear eA e2
                  go_upto_region 22 with (first
                    | (go_at_call 14; refine (MD2.out _).mono ?_; rintro e w' ⟨rfl, rfl⟩; clear MD2)
                    | (go_at_call 14; refine (DV.out _).mono ?_; rintro e w' ⟨zz, hzz, rfl, rfl⟩; clear DV))
                  clear c0 wq
                  obtain ⟨g8, o8, cc8, e8, _, _, ⟨z0, z1, z2⟩, _⟩ := id_at HA.out.h1.own.h (j := zz) (by rw [nms_len]; exact hzz)
                  rw [nms_len] at e8
                  cases e8
                  simp only [nms, List.getElem_map] at z0 z1 z2
                  have hcap : L.length ≤ c8 := by
                    have := HA.out.h1.own.h
                    rcases this with ⟨e, _⟩ | ⟨_, _, _, _, e, _, _, h3, _⟩
                    · cases e
                    · rw [nms_len] at h3 e; cases e; exact h3
                  obtain ⟨f1, f2, f3, INV, hH, hR9⟩ := HA.out.inv.free okK (by omega) hzz
                  have FF : Hid (∀ W R, H1 w d p K R W → Calls Try.prog 18 #[.pointer (some ⟨d, 0, none⟩), .agg #[.int .i64 0, .int .i64 (L[zz] : Int), .int .i64 (K.gen 0 L[zz] : Int)]] W fun e w' => e = .returned (.int .i64 0) ∧ H1 w d p (freed K 0 L[zz]) R w') := Lib.hid fun W R h => h.free 0 _ _ f1
                  have AL : Hid (∀ W R, H1 w d p (freed K 0 L[zz]) R W → Calls Try.prog 20 #[.pointer (some ⟨d, 0, none⟩), .agg #[.int .i64 0, .int .i64 (L[zz] : Int), .int .i64 (K.gen 0 L[zz] : Int)]] W fun e w' => e = .returned (.bool false) ∧ H1 w d p (freed K 0 L[zz]) R w') := Lib.hid fun W R h => h.alive 0 _ _ f2
                  have F2 : Hid (∀ W R, H1 w d p (freed K 0 L[zz]) R W → Calls Try.prog 18 #[.pointer (some ⟨d, 0, none⟩), .agg #[.int .i64 0, .int .i64 (L[zz] : Int), .int .i64 (K.gen 0 L[zz] : Int)]] W fun e w' => e = .returned (.int .i64 9) ∧ H1 w d p (freed K 0 L[zz]) R w') := Lib.hid fun W R h => h.free 0 _ _ f3
                  clear f1 f2 f3
                  have hn1 : (L.take zz ++ L.drop (zz + 1)).length = L.length - 1 := by rw [List.length_append, List.length_take, List.length_drop]; omega
                  have hn2 : ((nms K L).take zz ++ (nms K L).drop (zz + 1)).length = L.length - 1 := by rw [List.length_append, List.length_take, List.length_drop, nms_len]; omega
                  have LS : Hid (∀ W R, H1 w d p (freed K 0 L[zz]) R W → Calls Try.prog 21 #[.pointer (some ⟨d, 0, none⟩)] W fun e w' => (∃ A c, e = .returned (.slice A (L.length - 1) c)) ∧ H1 w d p (freed K 0 L[zz]) R w') := Lib.hid fun W R h => by
                    have := h.list
                    rw [INV.count (by omega), hn1] at this
                    exact this
                  have CUT : Hid (∀ (W : World) (b9 : Nat) (bx : Obj), H1 w d p (freed K 0 L[zz]) (fun W => Two W p.hi (.slice A7 (K.row 0).length c7) (.slice (some ⟨g8, o8, none⟩) L.length c8) (nms K (K.row 0)) (nms K L) ∧ W.heap[b9]? = some bx) W → p.hi ≤ b9 →
                      ∃ v1 w1, Hid ((Builtin.append_ #[40, 40] 40 #[.slice (some ⟨W.heap.size, 0, none⟩) 0 0, .slice (some ⟨g8, o8, none⟩) zz c8]).run Try.prog (W.drew.alloc (.cells #[] 33)) = .ok v1 w1) ∧
                        ∃ u2 w2, (∃ A c, u2 = .slice A (L.length - 1) c) ∧ Hid ((Builtin.append_ #[40, 40] 40 #[v1, .slice (some (if c8 = zz + 1 then ⟨g8, o8, none⟩ else ⟨g8, o8 + (zz + 1) * 3, none⟩)) (L.length - (zz + 1)) (c8 - (zz + 1))]).run Try.prog w1 = .ok u2 w2) ∧
                          H1 w d p (freed K 0 L[zz]) (fun W => Two W p.hi (.slice A7 (K.row 0).length c7) u2 (nms K (K.row 0)) ((nms K L).take zz ++ (nms K L).drop (zz + 1)) ∧ W.heap[b9]? = some bx) w2) := Lib.hid fun W b9 bx h hb9 => by
                    have bd : Below W.heap.size W W.drew := (Below.refl _ _).drew
                    have ho := h.own.1.h.below bd
                    have e1 := nms_len K L
                    rw [← e1] at ho
                    obtain ⟨v1, w1, r1, u2, w2, r2, o2, b2⟩ := run_cut W.drew ho h.pa.top (by rw [nms_len]; omega) (k := zz) (by rw [nms_len]; exact hzz) _ rfl
                    rw [e1] at r2
                    have bel : Below W.heap.size W w2 := bd.trans b2
                    have hx := h.below bel
                    obtain ⟨A6, c6, f6⟩ := o2.form
                    rw [hn2] at f6
                    exact ⟨v1, w1, Lib.hid r1, u2, w2, ⟨A6, c6, f6⟩, Lib.hid r2, h.put (bel.mono h.pa.top) ⟨⟨hx.own.1.r, o2.base h.pa.top, fun b hb hu => by
                      obtain ⟨h4, _⟩ := o2.blk hu
                      obtain ⟨_, cur, h5⟩ := h.own.1.r.blk hb
                      have h6 := heap_lt h5
                      have : W.drew.heap.size = W.heap.size := rfl
                      omega⟩, hx.own.2⟩ ((kept_two' _ _ _ _ _).and (kept_box hb9 _))⟩
                  have PUR : Hid (∀ (W : World) (u2 : Value) (b9 : Nat) (bx : Obj), H1 w d p (freed K 0 L[zz]) (fun W => Two W p.hi (.slice A7 (K.row 0).length c7) u2 (nms K (K.row 0)) ((nms K L).take zz ++ (nms K L).drop (zz + 1)) ∧ W.heap[b9]? = some bx) W →
                      ∃ v' w', (∃ A c, v' = .slice A ((K.row 0).length + 1) c) ∧ Hid ((Builtin.append_ #[40, 40] 40 #[.slice A7 (K.row 0).length c7, .slice (some ⟨W.heap.size, 0, none⟩) 1 1]).run Try.prog (W.alloc (.cells #[.int .i64 0, .int .i64 (L[zz] : Int), .int .i64 ((K.gen 0 L[zz] : Int) + 1)] 33)) = .ok v' w') ∧
                        Hid (H1 w d p (freed K 0 L[zz]) (fun W => Two W p.hi v' u2 (nms (freed K 0 L[zz]) ((freed K 0 L[zz]).row 0)) (nms (freed K 0 L[zz]) (L.take zz ++ L.drop (zz + 1)))) w')) := Lib.hid fun W u2 b9 bx h => by
                    obtain ⟨v', w', ⟨A5, c5, e5⟩, r5, h5⟩ := pushR (h.imp (fun ho => ho.1) (kept_two' _ _ _ _ _)) (by rw [nms_len]; omega) ((0 : Int), (L[zz] : Int), (K.gen 0 L[zz] : Int) + 1)
                    rw [List.length_append, nms_len] at e5
                    rw [← hR9, ← hH] at h5
                    exact ⟨v', w', ⟨A5, c5, e5⟩, r5, Lib.hid h5⟩
                  have REL : Hid (∀ W v u, H1 w d p (freed K 0 L[zz]) (fun W => Two W p.hi v u (nms (freed K 0 L[zz]) ((freed K 0 L[zz]).row 0)) (nms (freed K 0 L[zz]) (L.take zz ++ L.drop (zz + 1)))) W → Rn w d p z (j + 1) v u (freed K 0 L[zz]) (L.take zz ++ L.drop (zz + 1)) W) := Lib.hid fun W v u h => ⟨h, INV⟩
                  have hgen := HA.out.inv.few L[zz] ((HA.out.inv.all _).1 (List.getElem_mem hzz)).1
                  have HO := Lib.hid HA.out.h1
                  clear HA INV hH hR9 hn1 hn2
                  have hy3 : (K.gen 0 L[zz] : Int) ≤ 80 ∧ 0 ≤ (K.gen 0 L[zz] : Int) := by omega
                  obtain ⟨hy3, hy4⟩ := hy3
                  have hzi : (zz : Int) < (L.length : Int) := by omega
                  have hzc : (zz : Int) ≤ (c8 : Int) := by omega
                  have hlc8 : (L.length : Int) ≤ (c8 : Int) := by omega
                  have hli : (L.length : Int) ≤ 16 := by omega
                  have hz1 : (zz : Int) + 1 ≤ (L.length : Int) := by omega
                  have wz : IntKind.i64.wrap ((zz : Int) + 1) = (zz : Int) + 1 := IntWalk.i64_in _ (by omega)
                  have wz0 : 0 ≤ (zz : Int) + 1 := by omega
                  have wz1 : ((zz : Int) + 1).toNat = zz + 1 := by omega
                  have htop := HO.out.pa.top
                  obtain ⟨AD, hAD⟩ : ∃ AD : Addr, (if c8 = zz + 1 then (⟨g8, o8, none⟩ : Addr) else ⟨g8, o8 + (zz + 1) * 3, none⟩) = AD := ⟨_, rfl⟩
                  rw [hAD] at CUT
                  have hAD2 : (if c8 = zz + 1 then some (⟨g8, o8, none⟩ : Addr) else some ⟨g8, o8 + (zz + 1) * 3, none⟩) = some AD := by rw [← hAD]; split <;> rfl
                  clear hAD okK hgen
                  generalize (L[zz] : Int) = y2 at *
                  generalize (K.gen 0 L[zz] : Int) = y3 at *
                  generalize freed K 0 L[zz] = K9 at *
                  have H4 := Lib.hid (HO.out.box (.cells #[.int .i64 0, .int .i64 y2, .int .i64 y3] 33))
                  obtain ⟨⟨a0, a1, a2⟩, _⟩ := box3 H4.out.own.2
                  clear HO
                  go_wp2_with (first
                    | (go_at_call 18; refine (FF.out _ _ H4.out).mono ?_; rintro e w5 ⟨rfl, h5⟩; clear FF H4 a0 a1 a2; obtain ⟨⟨a0, a1, a2⟩, _⟩ := box3 h5.own.2)
                    | (go_at_call 20; refine (AL.out _ _ h5).mono ?_; rintro e w6 ⟨rfl, h6⟩; clear AL h5 a0 a1 a2; obtain ⟨⟨a0, a1, a2⟩, _⟩ := box3 h6.own.2)
                    | (go_at_call 18; refine (F2.out _ _ h6).mono ?_; rintro e w7 ⟨rfl, h7⟩; clear F2 h6 a0 a1 a2))
                  obtain ⟨v1, w8, HR1, u2, w9, ⟨A6, c6, rfl⟩, HR2, h8⟩ := CUT.out _ _ _ h7 htop
                  obtain ⟨v', w10, ⟨A5, c5, rfl⟩, HR3, h10⟩ := PUR.out _ _ _ _ h8
                  obtain ⟨⟨a0, a1, a2⟩, _⟩ := box3 h8.own.2
                  clear CUT PUR h7 h8 htop
                  go_region_law (first
                    | (refine step_append rfl (.tmp 115) (.tmp 118) 40 40 rfl (.slice (some ⟨w7.heap.size, 0, none⟩) 0 0) (.slice (some ⟨g8, o8, none⟩) zz c8) (by simp [Act.eval]) (by simp [Act.eval]) v1 w8 HR1.out ?_)
                    | (refine step_append rfl (.tmp 119) (.tmp 123) 40 40 rfl v1 (.slice (some AD) (L.length - (zz + 1)) (c8 - (zz + 1))) (by simp [Act.eval]) (by simp [Act.eval]) (.slice A6 (L.length - 1) c6) w9 HR2.out ?_))
                  all_goals
                    go_wp2_with (first
                      | (at_builtin; refine wpList_append _ rfl (.tmp 125) (.tmp 132) _ _ rfl _ (.slice (some ⟨_, 0, none⟩) 1 1) rfl rfl _ _ HR3.out ?_; clear HR3 a0 a1 a2)
                      | (go_at_call 21; refine (LS.out _ _ h10.out).mono ?_; rintro e w11 ⟨⟨A9, c9, rfl⟩, h11⟩; clear LS))
                    go_roundw
                    case rel => exact ⟨j + 1, _, _, by omega, by omega, by go_num, Lib.hid (REL.out _ _ _ h11)⟩
                    case measure => simp [intOf]; omega
                · have t3 : (m2 == 0) = false := beq_eq_false_iff_ne.2 e2
                  clear eA e2
                  go_upto_region 22 with (first
                    | (go_at_call 14; refine (MD2.out _).mono ?_; rintro e w' ⟨rfl, rfl⟩; clear MD2)
                    | (go_at_call 14; refine (DV.out _).mono ?_; rintro e w' ⟨zz, hzz, rfl, rfl⟩; clear DV))
                  clear c0 wq
                  obtain ⟨g8, o8, cc8, e8, _, _, ⟨z0, z1, z2⟩, _⟩ := id_at HA.out.h1.own.h (j := zz) (by rw [nms_len]; exact hzz)
                  rw [nms_len] at e8
                  cases e8
                  simp only [nms, List.getElem_map] at z0 z1 z2
                  have hcap : L.length ≤ c8 := by
                    have := HA.out.h1.own.h
                    rcases this with ⟨e, _⟩ | ⟨_, _, _, _, e, _, _, h3, _⟩
                    · cases e
                    · rw [nms_len] at h3 e; cases e; exact h3
                  obtain ⟨f1, f2, f3, INV, hH, hR9⟩ := HA.out.inv.free okK (by omega) hzz
                  have FF : Hid (∀ W R, H1 w d p K R W → Calls Try.prog 18 #[.pointer (some ⟨d, 0, none⟩), .agg #[.int .i64 0, .int .i64 (L[zz] : Int), .int .i64 (K.gen 0 L[zz] : Int)]] W fun e w' => e = .returned (.int .i64 0) ∧ H1 w d p (freed K 0 L[zz]) R w') := Lib.hid fun W R h => h.free 0 _ _ f1
                  have AL : Hid (∀ W R, H1 w d p (freed K 0 L[zz]) R W → Calls Try.prog 20 #[.pointer (some ⟨d, 0, none⟩), .agg #[.int .i64 0, .int .i64 (L[zz] : Int), .int .i64 (K.gen 0 L[zz] : Int)]] W fun e w' => e = .returned (.bool false) ∧ H1 w d p (freed K 0 L[zz]) R w') := Lib.hid fun W R h => h.alive 0 _ _ f2
                  have F2 : Hid (∀ W R, H1 w d p (freed K 0 L[zz]) R W → Calls Try.prog 18 #[.pointer (some ⟨d, 0, none⟩), .agg #[.int .i64 0, .int .i64 (L[zz] : Int), .int .i64 (K.gen 0 L[zz] : Int)]] W fun e w' => e = .returned (.int .i64 9) ∧ H1 w d p (freed K 0 L[zz]) R w') := Lib.hid fun W R h => h.free 0 _ _ f3
                  clear f1 f2 f3
                  have hn1 : (L.take zz ++ L.drop (zz + 1)).length = L.length - 1 := by rw [List.length_append, List.length_take, List.length_drop]; omega
                  have hn2 : ((nms K L).take zz ++ (nms K L).drop (zz + 1)).length = L.length - 1 := by rw [List.length_append, List.length_take, List.length_drop, nms_len]; omega
                  have LS : Hid (∀ W R, H1 w d p (freed K 0 L[zz]) R W → Calls Try.prog 21 #[.pointer (some ⟨d, 0, none⟩)] W fun e w' => (∃ A c, e = .returned (.slice A (L.length - 1) c)) ∧ H1 w d p (freed K 0 L[zz]) R w') := Lib.hid fun W R h => by
                    have := h.list
                    rw [INV.count (by omega), hn1] at this
                    exact this
                  have CUT : Hid (∀ (W : World) (b9 : Nat) (bx : Obj), H1 w d p (freed K 0 L[zz]) (fun W => Two W p.hi (.slice A7 (K.row 0).length c7) (.slice (some ⟨g8, o8, none⟩) L.length c8) (nms K (K.row 0)) (nms K L) ∧ W.heap[b9]? = some bx) W → p.hi ≤ b9 →
                      ∃ v1 w1, Hid ((Builtin.append_ #[40, 40] 40 #[.slice (some ⟨W.heap.size, 0, none⟩) 0 0, .slice (some ⟨g8, o8, none⟩) zz c8]).run Try.prog (W.drew.alloc (.cells #[] 33)) = .ok v1 w1) ∧
                        ∃ u2 w2, (∃ A c, u2 = .slice A (L.length - 1) c) ∧ Hid ((Builtin.append_ #[40, 40] 40 #[v1, .slice (some (if c8 = zz + 1 then ⟨g8, o8, none⟩ else ⟨g8, o8 + (zz + 1) * 3, none⟩)) (L.length - (zz + 1)) (c8 - (zz + 1))]).run Try.prog w1 = .ok u2 w2) ∧
                          H1 w d p (freed K 0 L[zz]) (fun W => Two W p.hi (.slice A7 (K.row 0).length c7) u2 (nms K (K.row 0)) ((nms K L).take zz ++ (nms K L).drop (zz + 1)) ∧ W.heap[b9]? = some bx) w2) := Lib.hid fun W b9 bx h hb9 => by
                    have bd : Below W.heap.size W W.drew := (Below.refl _ _).drew
                    have ho := h.own.1.h.below bd
                    have e1 := nms_len K L
                    rw [← e1] at ho
                    obtain ⟨v1, w1, r1, u2, w2, r2, o2, b2⟩ := run_cut W.drew ho h.pa.top (by rw [nms_len]; omega) (k := zz) (by rw [nms_len]; exact hzz) _ rfl
                    rw [e1] at r2
                    have bel : Below W.heap.size W w2 := bd.trans b2
                    have hx := h.below bel
                    obtain ⟨A6, c6, f6⟩ := o2.form
                    rw [hn2] at f6
                    exact ⟨v1, w1, Lib.hid r1, u2, w2, ⟨A6, c6, f6⟩, Lib.hid r2, h.put (bel.mono h.pa.top) ⟨⟨hx.own.1.r, o2.base h.pa.top, fun b hb hu => by
                      obtain ⟨h4, _⟩ := o2.blk hu
                      obtain ⟨_, cur, h5⟩ := h.own.1.r.blk hb
                      have h6 := heap_lt h5
                      have : W.drew.heap.size = W.heap.size := rfl
                      omega⟩, hx.own.2⟩ ((kept_two' _ _ _ _ _).and (kept_box hb9 _))⟩
                  have PUR : Hid (∀ (W : World) (u2 : Value) (b9 : Nat) (bx : Obj), H1 w d p (freed K 0 L[zz]) (fun W => Two W p.hi (.slice A7 (K.row 0).length c7) u2 (nms K (K.row 0)) ((nms K L).take zz ++ (nms K L).drop (zz + 1)) ∧ W.heap[b9]? = some bx) W →
                      ∃ v' w', (∃ A c, v' = .slice A ((K.row 0).length + 1) c) ∧ Hid ((Builtin.append_ #[40, 40] 40 #[.slice A7 (K.row 0).length c7, .slice (some ⟨W.heap.size, 0, none⟩) 1 1]).run Try.prog (W.alloc (.cells #[.int .i64 0, .int .i64 (L[zz] : Int), .int .i64 ((K.gen 0 L[zz] : Int) + 1)] 33)) = .ok v' w') ∧
                        Hid (H1 w d p (freed K 0 L[zz]) (fun W => Two W p.hi v' u2 (nms (freed K 0 L[zz]) ((freed K 0 L[zz]).row 0)) (nms (freed K 0 L[zz]) (L.take zz ++ L.drop (zz + 1)))) w')) := Lib.hid fun W u2 b9 bx h => by
                    obtain ⟨v', w', ⟨A5, c5, e5⟩, r5, h5⟩ := pushR (h.imp (fun ho => ho.1) (kept_two' _ _ _ _ _)) (by rw [nms_len]; omega) ((0 : Int), (L[zz] : Int), (K.gen 0 L[zz] : Int) + 1)
                    rw [List.length_append, nms_len] at e5
                    rw [← hR9, ← hH] at h5
                    exact ⟨v', w', ⟨A5, c5, e5⟩, r5, Lib.hid h5⟩
                  have REL : Hid (∀ W v u, H1 w d p (freed K 0 L[zz]) (fun W => Two W p.hi v u (nms (freed K 0 L[zz]) ((freed K 0 L[zz]).row 0)) (nms (freed K 0 L[zz]) (L.take zz ++ L.drop (zz + 1)))) W → Rn w d p z (j + 1) v u (freed K 0 L[zz]) (L.take zz ++ L.drop (zz + 1)) W) := Lib.hid fun W v u h => ⟨h, INV⟩
                  have hgen := HA.out.inv.few L[zz] ((HA.out.inv.all _).1 (List.getElem_mem hzz)).1
                  have HO := Lib.hid HA.out.h1
                  clear HA INV hH hR9 hn1 hn2
                  have hy3 : (K.gen 0 L[zz] : Int) ≤ 80 ∧ 0 ≤ (K.gen 0 L[zz] : Int) := by omega
                  obtain ⟨hy3, hy4⟩ := hy3
                  have hzi : (zz : Int) < (L.length : Int) := by omega
                  have hzc : (zz : Int) ≤ (c8 : Int) := by omega
                  have hlc8 : (L.length : Int) ≤ (c8 : Int) := by omega
                  have hli : (L.length : Int) ≤ 16 := by omega
                  have hz1 : (zz : Int) + 1 ≤ (L.length : Int) := by omega
                  have wz : IntKind.i64.wrap ((zz : Int) + 1) = (zz : Int) + 1 := IntWalk.i64_in _ (by omega)
                  have wz0 : 0 ≤ (zz : Int) + 1 := by omega
                  have wz1 : ((zz : Int) + 1).toNat = zz + 1 := by omega
                  have htop := HO.out.pa.top
                  obtain ⟨AD, hAD⟩ : ∃ AD : Addr, (if c8 = zz + 1 then (⟨g8, o8, none⟩ : Addr) else ⟨g8, o8 + (zz + 1) * 3, none⟩) = AD := ⟨_, rfl⟩
                  rw [hAD] at CUT
                  have hAD2 : (if c8 = zz + 1 then some (⟨g8, o8, none⟩ : Addr) else some ⟨g8, o8 + (zz + 1) * 3, none⟩) = some AD := by rw [← hAD]; split <;> rfl
                  clear hAD okK hgen
                  generalize (L[zz] : Int) = y2 at *
                  generalize (K.gen 0 L[zz] : Int) = y3 at *
                  generalize freed K 0 L[zz] = K9 at *
                  have H4 := Lib.hid (HO.out.box (.cells #[.int .i64 0, .int .i64 y2, .int .i64 y3] 33))
                  obtain ⟨⟨a0, a1, a2⟩, _⟩ := box3 H4.out.own.2
                  clear HO
                  go_wp2_with (first
                    | (go_at_call 18; refine (FF.out _ _ H4.out).mono ?_; rintro e w5 ⟨rfl, h5⟩; clear FF H4 a0 a1 a2; obtain ⟨⟨a0, a1, a2⟩, _⟩ := box3 h5.own.2)
                    | (go_at_call 20; refine (AL.out _ _ h5).mono ?_; rintro e w6 ⟨rfl, h6⟩; clear AL h5 a0 a1 a2; obtain ⟨⟨a0, a1, a2⟩, _⟩ := box3 h6.own.2)
                    | (go_at_call 18; refine (F2.out _ _ h6).mono ?_; rintro e w7 ⟨rfl, h7⟩; clear F2 h6 a0 a1 a2))
                  obtain ⟨v1, w8, HR1, u2, w9, ⟨A6, c6, rfl⟩, HR2, h8⟩ := CUT.out _ _ _ h7 htop
                  obtain ⟨v', w10, ⟨A5, c5, rfl⟩, HR3, h10⟩ := PUR.out _ _ _ _ h8
                  obtain ⟨⟨a0, a1, a2⟩, _⟩ := box3 h8.own.2
                  clear CUT PUR h7 h8 htop
                  go_region_law (first
                    | (refine step_append rfl (.tmp 115) (.tmp 118) 40 40 rfl (.slice (some ⟨w7.heap.size, 0, none⟩) 0 0) (.slice (some ⟨g8, o8, none⟩) zz c8) (by simp [Act.eval]) (by simp [Act.eval]) v1 w8 HR1.out ?_)
                    | (refine step_append rfl (.tmp 119) (.tmp 123) 40 40 rfl v1 (.slice (some AD) (L.length - (zz + 1)) (c8 - (zz + 1))) (by simp [Act.eval]) (by simp [Act.eval]) (.slice A6 (L.length - 1) c6) w9 HR2.out ?_))
                  all_goals
                    go_wp2_with (first
                      | (at_builtin; refine wpList_append _ rfl (.tmp 125) (.tmp 132) _ _ rfl _ (.slice (some ⟨_, 0, none⟩) 1 1) rfl rfl _ _ HR3.out ?_; clear HR3 a0 a1 a2)
                      | (go_at_call 21; refine (LS.out _ _ h10.out).mono ?_; rintro e w11 ⟨⟨A9, c9, rfl⟩, h11⟩; clear LS))
                    go_roundw
                    case rel => exact ⟨j + 1, _, _, by omega, by omega, by go_num, Lib.hid (REL.out _ _ _ h11)⟩
                    case measure => simp [intOf]; omega
          · have t2 : ¬ (j : Int) < 80 := by omega
            have HB := Lib.hid HA.out.h1.bel
            clear HR HI
            cases hrow : K.row 0 with
            | nil =>
              have HH := Lib.hid (HA.out.h1.head 0 (head_nil (K := K) (k := 0) (by have := okK.n1; omega) hrow))
              have t8 : (((K.row 0).length : Int) == 0) = true := by rw [hrow]; rfl
              rw [hrow] at t8
              clear HA hrow okK hRn
              go_wp2_with (first
                | (go_at_call 22; refine HH.out.mono ?_; rintro e w8 ⟨rfl, h8⟩; clear HH)
                | (go_at_call 11; refine (awake_any _).mono ?_; rintro e w9 ⟨rfl, hb9⟩; have b9 := (h8.below hb9).bel; clear hb9))
              go_ret
              exact ⟨rfl, b9⟩
            | cons i r =>
              have HH := Lib.hid (HA.out.h1.head 0 (head_row (K := K) (k := 0) (by have := okK.n1; omega) hrow))
              have t8 : (((i :: r).length : Int) == 0) = false := beq_eq_false_iff_ne.2 (by rw [List.length_cons]; omega)
              rw [hrow] at hRn
              have hRn' : ((i :: r).length : Int) ≤ 16 := by omega
              clear HA hrow okK hRn
              generalize (i :: r).length = nr at *
              go_wp2_with (first
                | (go_at_call 22; refine HH.out.mono ?_; rintro e w8 ⟨rfl, h8⟩; clear HH)
                | (go_at_call 11; refine (awake_any _).mono ?_; rintro e w9 ⟨rfl, hb9⟩; have b9 := (h8.below hb9).bel; clear hb9))
              go_ret
              exact ⟨rfl, b9⟩
        · have t1 : ¬ (j : Int) < (l.length : Int) := by omega
          have HB := Lib.hid HA.out.h1.bel
          clear HR HI
          cases hrow : K.row 0 with
          | nil =>
            have HH := Lib.hid (HA.out.h1.head 0 (head_nil (K := K) (k := 0) (by have := okK.n1; omega) hrow))
            have t8 : (((K.row 0).length : Int) == 0) = true := by rw [hrow]; rfl
            rw [hrow] at t8
            clear HA hrow okK hRn
            go_wp2_with (first
              | (go_at_call 22; refine HH.out.mono ?_; rintro e w8 ⟨rfl, h8⟩; clear HH)
              | (go_at_call 11; refine (awake_any _).mono ?_; rintro e w9 ⟨rfl, hb9⟩; have b9 := (h8.below hb9).bel; clear hb9))
            go_ret
            exact ⟨rfl, b9⟩
          | cons i r =>
            have HH := Lib.hid (HA.out.h1.head 0 (head_row (K := K) (k := 0) (by have := okK.n1; omega) hrow))
            have t8 : (((i :: r).length : Int) == 0) = false := beq_eq_false_iff_ne.2 (by rw [List.length_cons]; omega)
            rw [hrow] at hRn
            have hRn' : ((i :: r).length : Int) ≤ 16 := by omega
            clear HA hrow okK hRn
            generalize (i :: r).length = nr at *
            go_wp2_with (first
              | (go_at_call 22; refine HH.out.mono ?_; rintro e w8 ⟨rfl, h8⟩; clear HH)
              | (go_at_call 11; refine (awake_any _).mono ?_; rintro e w9 ⟨rfl, hb9⟩; have b9 := (h8.below hb9).bel; clear hb9))
            go_ret
            exact ⟨rfl, b9⟩
end Go.Proofs.Ytdanpdlbbgcidaa
