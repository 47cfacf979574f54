/- The law IdsOnce, walked. Written by wip/tools/genonce.py. -/
import Derived.Test.YtdanpdlbbgcidaaIdOnceW
import Derived.Deep.DeepCutAuto
namespace Go.Proofs.Ytdanpdlbbgcidaa
open Go.RowKit Ids
set_option linter.unusedVariables false

abbrev Rg (q : Pl) (v u : Value) (G : List Gv) (W : World) : Prop := OwnI W q.hi v (G.map gI) ∧ OwnB W q.hi u (G.map (·.2.2))
def Of (w : World) (d r : Nat) (p q : Pl) (v u : Value) (K J : St) (G : List Gv) (W : World) : Prop := H2 w d r p q K J (Rg q v u G) W ∧ Aft J G
theorem given_at {W : World} {B : Nat} {A : Option Addr} {c0 : Nat} {G : List Gv} (h : OwnI W B (.slice A G.length c0) (G.map gI)) {k : Nat} (hk : k < G.length) : ∃ g o c, (Value.slice A G.length c0) = .slice (some ⟨g, o, none⟩) G.length c ∧ W.cell? ⟨g, o + k * 3, none⟩ = some (.int .i64 0) ∧ W.cell? ⟨g, o + k * 3 + 1, none⟩ = some (.int .i64 (G[k].1 : Int)) ∧ W.cell? ⟨g, o + k * 3 + 2, none⟩ = some (.int .i64 (G[k].2.1 : Int)) := by
  obtain ⟨g, o, c, e, _, _, hc, _⟩ := id_at h (j := k) (by rw [List.length_map]; exact hk)
  rw [List.length_map] at e
  simp only [List.getElem_map] at hc
  exact ⟨g, o, c, e, hc⟩
theorem cmp_no {x1 x2 x3 y1 y2 : Int} (h : ¬ (x1 = 0 ∧ x2 = y1 ∧ x3 = y2)) : ((0 : Int) == x1) = false ∨ (((0 : Int) == x1) = true ∧ (y1 == x2) = false) ∨ (((0 : Int) == x1) = true ∧ (y1 == x2) = true ∧ (y2 == x3) = false) := by
  simp only [beq_eq_false_iff_ne, beq_iff_eq, ne_eq]
  omega
theorem half_index {n : Int} (hn : -9223372036854775808 ≤ n ∧ n ≤ 9223372036854775807) (c : Int) (hc : 2 ≤ c) : IntKind.i64.wrap (n.tdiv c) = n.tdiv c := by
  refine IntWalk.i64_in _ ?_
  have key : ∀ a : Int, 0 ≤ a → 0 ≤ a.tdiv c ∧ a.tdiv c ≤ a := fun a ha => by
    rw [Int.tdiv_eq_ediv_of_nonneg ha]
    exact ⟨Int.ediv_nonneg ha (by omega), Int.ediv_le_self c ha⟩
  rcases Int.le_total 0 n with h | h
  · have := key n h; omega
  · have h1 := key (-n) (by omega)
    have : n.tdiv c = -((-n).tdiv c) := by rw [Int.neg_tdiv, Int.neg_neg]
    rw [this]; omega
theorem div_mod (n c : Int) (m : Nat) (W : World) (hm : 0 < m) (hm2 : m ≤ 1000) : Calls Try.prog 14 #[.int .i64 (n.tdiv c), .int .i64 (m : Int)] W fun e w' => ∃ z : Nat, z < m ∧ e = .returned (.int .i64 (z : Int)) ∧ W = w' := by
  refine (mod_any (n.tdiv c) (m : Int) W (by omega) (by omega)).mono ?_
  rintro e w' ⟨rfl, rfl⟩
  have g1 := Int.emod_nonneg (n.tdiv c) (show (m : Int) ≠ 0 by omega)
  have g2 := Int.emod_lt_of_pos (n.tdiv c) (show (0 : Int) < (m : Int) by omega)
  exact ⟨(n.tdiv c % (m : Int)).toNat, by omega, by rw [show (((n.tdiv c % (m : Int)).toNat : Nat) : Int) = n.tdiv c % (m : Int) by omega], rfl⟩
set_option maxHeartbeats 16000000 in
set_option maxRecDepth 100000 in
theorem law_once (w : World) (many : Int) (_ : -9223372036854775808 ≤ many ∧ many ≤ 9223372036854775807) (A : Option Addr) (cap : Nat) (l : List Int) (hlc : l.length ≤ cap) (hcap : cap ≤ 140737488351232) (hi : I64 l) (hR : Reads w w.heap.size A (ints l)) :
    Calls Try.prog 4 #[.int .i64 many, .slice A l.length cap] w fun e w' => e = .returned (.bool true) ∧ Below w.heap.size w w' := by
  have M0 : Hid (∀ W, Calls Try.prog 14 #[.int .i64 many, .int .i64 4] W fun e w' => e = .returned (.int .i64 (many % 4)) ∧ W = w') := Lib.hid (fun W => mod_any many 4 W (by decide) (by decide))
  obtain ⟨m, hm, hm1, hm4⟩ : ∃ m : Nat, (1 : Int) + many % 4 = (m : Int) ∧ 1 ≤ m ∧ m ≤ 4 := by
    have h2 := Int.emod_lt_of_pos many (show (0 : Int) < 4 by decide)
    have h3 := Int.emod_nonneg many (show (4 : Int) ≠ 0 by decide)
    exact ⟨(1 + many % 4).toNat, by omega, by omega, by omega⟩
  have hmq : 0 ≤ many % 4 ∧ many % 4 ≤ 3 := by
    have h2 := Int.emod_lt_of_pos many (show (0 : Int) < 4 by decide)
    have h3 := Int.emod_nonneg many (show (4 : Int) ≠ 0 by decide)
    omega
  obtain ⟨hmq1, hmq2⟩ := hmq
  generalize many % 4 = q4 at *
  obtain ⟨d, hd⟩ : ∃ d, d = w.heap.size := ⟨_, rfl⟩
  have N0 := h1_new w (n := 1) (m := m) (by decide) (by decide) hm1 (by omega)
  rw [← hd] at N0
  have N : Hid (Calls Try.prog 9 #[.int .i64 1, .int .i64 (m : Int)] w fun e w' => e = .returned (.tuple #[.pointer (some ⟨d, 0, none⟩), .int .i64 0]) ∧ ∃ p, H1 w d p (new 1 m) (fun _ => True) w' ∧ p.hi = w'.heap.size) := N0
  clear N0
  have N2 : Hid (∀ W p, H1 w d p (new 1 m) (fun _ => True) W → p.hi = W.heap.size → Calls Try.prog 9 #[.int .i64 1, .int .i64 (m : Int)] W fun e w' => e = .returned (.tuple #[.pointer (some ⟨W.heap.size, 0, none⟩), .int .i64 0]) ∧ ∃ q, H2 w d W.heap.size p q (new 1 m) (new 1 m) (fun _ => True) w' ∧ q.hi = w'.heap.size) :=
    Lib.hid fun W p h hp => h2_new h hp (n := 1) (m := m) (by decide) (by decide) hm1 (by omega)
  clear hd
  have MB := made_bools
  have S0 : Hid (∀ r p q W, H2 w d r p q (new 1 m) (new 1 m) (fun _ => True) W → On w d r p q m 0 (.slice none 0 0) (.slice (some ⟨W.heap.size, 0, none⟩) 0 0) (new 1 m) (new 1 m) [] (W.alloc (.cells #[] 4))) := Lib.hid fun r p q W h => by
    have hb := bel1 W (.cells #[] 4)
    exact ⟨(h.below hb).imp (fun _ => ⟨rw_nil _ _, own_made h.qa.top⟩) (kept_two _ _ _ _ _), inv_new m, rfl, Nat.le_refl _⟩
  have HR := Lib.hid hR
  have HI := Lib.hid hi
  clear hR hi
  have hl0 : (l.length : Int) ≤ 140737488351232 := by omega
  have hm1' : 1 ≤ (m : Int) := by omega
  have hm4' : (m : Int) ≤ 4 := by omega
  go_enter Try.func4, Try.ntmps4
  go_wp2_with (first
    | (go_at_call 14; refine (M0.out _).mono ?_; rintro e w' ⟨rfl, rfl⟩; clear M0)
    | (go_at_call 9; refine N.out.mono ?_; rintro e w1 ⟨rfl, p, h1, hp1⟩; clear N hm)
    | (go_at_call 9; refine (N2.out w1 p h1 hp1).mono ?_; rintro e w2 ⟨rfl, q, h2, hq2⟩; have s0 := S0.out _ p q w2 h2; clear N2 h1 h2 hp1 hq2))
  obtain ⟨r, hr⟩ : ∃ r, r = w1.heap.size := ⟨_, rfl⟩
  rw [← hr] at s0 ⊢
  clear hr S0 MB
  have s0 := Lib.hid s0
  go_loopw [11, 9, 10] (fun i v u wr => ∃ (j : Nat) (K J : St) (G : List Gv), j ≤ l.length ∧ j ≤ 60 ∧ i = .int .i64 j ∧ Hid (On w d r p q m j v u K J G wr)) (fun i _ _ _ => l.length - (intOf i).toNat)
  case atStart => exact ⟨0, _, _, [], Nat.zero_le _, by omega, rfl, s0⟩
  case round =>
    obtain ⟨j, K, J, G, hj, hj60, rfl, HA⟩ := hrel
    clear s0
    obtain ⟨A7, c7, rfl⟩ := HA.out.h2.own.1.form
    obtain ⟨A8, c8, rfl⟩ := HA.out.h2.own.2.form
    have hgl : (G.map gI).length = G.length := List.length_map _
    have htl : (G.map (·.2.2)).length = G.length := List.length_map _
    replace HA : Hid (On w d r p q m j (.slice A7 G.length c7) (.slice A8 G.length c8) K J G wr) := by rw [hgl, htl] at HA; exact HA
    rw [hgl, htl]
    have hos : (G.length : Int) ≤ 60 := by have := HA.out.len; omega
    by_cases hjl : j < l.length
    · have t1 : (j : Int) < (l.length : Int) := by omega
      by_cases hj6 : j < 60
      · have t2 : (j : Int) < 60 := by omega
        obtain ⟨b, off, rfl, hbB, hc0⟩ := HR.out.at_ (k := j) (by simpa [ints] using hjl)
        have hI := HI.out l[j] (List.getElem_mem hjl)
        have HC : Hid (∀ W, Below w.heap.size w W → W.cell? ⟨b, off + j, none⟩ = some (.int .i64 l[j])) := Lib.hid fun W hW => by
          rw [hW.cell (p := ⟨b, off + j, none⟩) hbB, hc0]
          simp [ints]
        have c0 := HC.out wr HA.out.h2.bel
        clear hc0 HR HI
        generalize l[j] = n at *
        have MD2 := Lib.hid (fun W => mod_any n 2 W (by decide) (by decide))
        have MD3 := Lib.hid (fun W => mod_any n 3 W (by decide) (by decide))
        generalize n % 2 = m2 at *
        generalize hm3 : n % 3 = m3 at *
        have hm30 : 0 ≤ m3 := by rw [← hm3]; exact Int.emod_nonneg n (by decide)
        clear hm3
        have REL : Hid (∀ W R v u K9 J9 G9, Inv K9 J9 G9 → K9.m = m → G9.length ≤ j + 1 → (∀ W, R W → OwnI W q.hi v (G9.map gI) ∧ OwnB W q.hi u (G9.map (·.2.2))) → H2 w d r p q K9 J9 R W → On w d r p q m (j + 1) v u K9 J9 G9 W) := Lib.hid fun W R v u K9 J9 G9 hI hm hl hRR h => ⟨h.imp (hRR W) (kept_two _ _ _ _ _), hI, hm, hl⟩
        by_cases e3 : 0 < m3
        · have t3 : m3 > 0 := e3
          clear e3
          rcases next_given HA.out.inv HA.out.h2.pa.ok HA.out.h2.qa.ok with eK | ⟨i, eK, INV, eB, eR, eT⟩
          · have NL : Hid (Calls Try.prog 15 #[.pointer (some ⟨d, 0, none⟩), .int .i64 0] wr fun e w' => e = .returned (.tuple #[.agg #[.int .i64 0, .int .i64 0, .int .i64 0], .int .i64 (-1), .bool false]) ∧ H2 w d r p q K J (fun W => OwnI W q.hi (.slice A7 G.length c7) (G.map gI) ∧ OwnB W q.hi (.slice A8 G.length c8) (G.map (·.2.2))) w') := Lib.hid (HA.out.h2.nxtL 0 eK)
            clear eK MD2
            go_wp2_with (first
              | (go_at_call 14; refine (MD3.out _).mono ?_; rintro e w' ⟨rfl, rfl⟩; clear MD3)
              | (go_at_call 15; refine NL.out.mono ?_; rintro e w3 ⟨rfl, h3⟩; have h4 := h3.below (bel1 w3 (.cells #[.int .i64 0, .int .i64 0, .int .i64 0] 33)); clear NL h3))
            go_roundw
            case rel => exact ⟨j + 1, _, _, G, by omega, by omega, by go_num, Lib.hid (REL.out _ _ _ _ _ _ G HA.out.inv HA.out.m (by have := HA.out.len; omega) (fun W h => h) h4)⟩
            case measure => simp [intOf]; omega
          · have hKm : (N1 K 0 i).m = m := HA.out.m
            have hlen := HA.out.len
            have hvb : Hid (∀ W : World, wr.heap.size ≤ W.heap.size → ∀ g, (Value.slice A7 G.length c7).ownBlock = some g → g < W.heap.size) := Lib.hid fun (W : World) hW g hg => by
              obtain ⟨_, cur, h2⟩ := HA.out.h2.own.1.blk hg
              have := heap_lt h2
              omega
            have NL0 := HA.out.h2.nxtL 0 eK
            have NL1 : Hid (Calls Try.prog 15 #[.pointer (some ⟨d, 0, none⟩), .int .i64 0] wr fun e w' => e = .returned (.tuple #[.agg #[.int .i64 0, .int .i64 (i : Int), .int .i64 (K.gen 0 i : Int)], .int .i64 (if K.gen 0 i < K.bnd 0 i then -1 else (i : Int)), .bool true]) ∧ wr.heap.size ≤ w'.heap.size ∧ H2 w d r p q (N1 K 0 i) J (fun W => OwnI W q.hi (.slice A7 G.length c7) (G.map gI) ∧ OwnB W q.hi (.slice A8 G.length c8) (G.map (·.2.2))) w') := Lib.hid (by
              have hsz := next_any HA.out.h2.pa 0
              rw [HA.out.h2.pd, eK] at hsz
              refine hsz.mono ?_
              rintro e w' ⟨rfl, h1, h2⟩
              exact ⟨rfl, h2.size, HA.out.h2.left h1 h2⟩)
            clear NL0 eK
            have TK : Hid (∀ W R, H2 w d r p q (N1 K 0 i) (setBnd J 0 i (bd K 0 i)) R W → Calls Try.prog 17 #[.pointer (some ⟨r, 0, none⟩), .agg #[.int .i64 0, .int .i64 (i : Int), .int .i64 (K.gen 0 i : Int)]] W fun e w' => e = .returned (.int .i64 0) ∧ H2 w d r p q (N1 K 0 i) (J1 K J i true) R w') := Lib.hid fun W R h => h.takeR 0 (i : Int) (K.gen 0 i : Int) eT
            have J1f : J1 K J i false = setBnd J 0 i (bd K 0 i) := rfl
            have INVt := Lib.hid (INV true)
            have INVf := Lib.hid (INV false)
            rw [J1f] at INVf
            clear INV eT J1f
            have hGl : G.length ≤ 100 := by omega
            have GX : Hid (∀ t, (G ++ [(i, K.gen 0 i, t)]).map gI = G.map gI ++ [((0 : Int), (i : Int), (K.gen 0 i : Int))] ∧ (G ++ [(i, K.gen 0 i, t)]).map (·.2.2) = G.map (·.2.2) ++ [t] ∧ (G ++ [(i, K.gen 0 i, t)]).length ≤ j + 1) := Lib.hid fun t => ⟨by rw [List.map_append]; rfl, by rw [List.map_append]; rfl, by rw [List.length_append]; simp; omega⟩
            by_cases hb : K.gen 0 i < K.bnd 0 i
            · have eJ := eB hb
              rw [eJ] at TK INVf
              rw [if_pos hb] at NL1
              clear eB eR eJ hb
              by_cases e2 : m2 = 0
              · have t4 : (m2 == 0) = true := beq_iff_eq.2 e2
                clear e2 INVf
                obtain ⟨G', hG'⟩ : ∃ G', G' = G ++ [(i, K.gen 0 i, true)] := ⟨_, rfl⟩
                obtain ⟨gx1, gx2, gx3⟩ := GX.out true
                rw [← hG'] at gx1 gx2 gx3
                have INVx := INVt
                rw [← hG'] at INVx
                clear hG' GX
                have PU : Hid (∀ W s b9, H2 w d r p q (N1 K 0 i) J (fun W' => (OwnI W' q.hi (.slice A7 G.length c7) (G.map gI) ∧ OwnB W' q.hi (.slice A8 G.length c8) (G.map (·.2.2))) ∧ W'.heap[b9]? = some (.cells #[.int .i64 0, .int .i64 (i : Int), .int .i64 (K.gen 0 i : Int)] 33)) W → q.hi ≤ b9 → (∀ g, (Value.slice A7 G.length c7).ownBlock = some g → g < b9) → W.heap.size = s →
                    ∃ v' w1, (∃ A c, v' = .slice A G'.length c) ∧ Hid ((Builtin.append_ #[40, 40] 40 #[.slice A7 G.length c7, .slice (some ⟨s, 0, none⟩) 1 1]).run Try.prog (W.alloc (.cells #[.int .i64 0, .int .i64 (i : Int), .int .i64 (K.gen 0 i : Int)] 33)) = .ok v' w1) ∧
                      ∃ u' w2, (∃ A c, u' = .slice A G'.length c) ∧ Hid ((Builtin.append_ #[41, 41] 41 #[.slice A8 G.length c8, .slice (some ⟨w1.heap.size, 0, none⟩) 1 1]).run Try.prog (w1.alloc (.cells #[.bool true] 4)) = .ok u' w2) ∧
                        H2 w d r p q (N1 K 0 i) J (fun W' => (OwnI W' q.hi v' (G'.map gI) ∧ OwnB W' q.hi u' (G'.map (·.2.2))) ∧ W'.heap[b9]? = some (.cells #[.int .i64 0, .int .i64 (i : Int), .int .i64 (K.gen 0 i : Int)] 33)) w2) := Lib.hid fun W s b9 h hb hv hs => by
                  have := push2 (x := ((0 : Int), (i : Int), (K.gen 0 i : Int))) h hb hv hs ⟨by rw [List.length_map]; exact hGl, by rw [List.length_map]; exact hGl⟩ true
                  rw [← gx1, ← gx2, List.length_map, List.length_map] at this
                  exact this
                have GXX : Hid (G'.length ≤ j + 1) := Lib.hid gx3
                clear gx1 gx2 gx3
                generalize N1 K 0 i = K9 at *
                generalize (K.gen 0 i : Int) = y3 at *
                generalize hy2 : (i : Int) = y2 at *
                generalize J1 K J i true = J9 at *
                clear hy2
                go_wp2_with (first
                  | (go_at_call 14; refine (MD3.out _).mono ?_; rintro e w' ⟨rfl, rfl⟩; clear MD3)
                  | (go_at_call 15; refine NL1.out.mono ?_; rintro e w3 ⟨rfl, hs3, h3⟩; have h4 := h3.box (.cells #[.int .i64 0, .int .i64 y2, .int .i64 y3] 33); have hv3 := hvb.out w3 hs3; have hq3 := h3.qa.top; clear NL1; obtain ⟨v', w5, ⟨A5, c5, rfl⟩, HRUN, u', w6, ⟨A6, c6, rfl⟩, HRUN2, h6⟩ := PU.out _ (w3.heap.size + 1) w3.heap.size h4 hq3 hv3 (by simp); clear PU; have c0' := HC.out _ h4.bel; obtain ⟨⟨a0, a1, a2⟩, _⟩ := box3 h4.own.2; clear h4)
                  | (go_at_call 14; refine (MD2.out _).mono ?_; rintro e w' ⟨rfl, rfl⟩; clear MD2)
                  | (at_builtin; refine wpList_append _ rfl (.tmp 88) (.tmp 90) _ _ rfl _ (.slice (some ⟨_, 0, none⟩) 1 1) rfl rfl _ _ HRUN.out ?_; clear HRUN a0 a1 a2 c0')
                  | (at_builtin; refine wpList_append _ rfl (.tmp 92) (.tmp 94) _ _ rfl _ (.slice (some ⟨_, 0, none⟩) 1 1) rfl rfl _ _ HRUN2.out ?_; clear HRUN2; obtain ⟨⟨a0, a1, a2⟩, _⟩ := box3 h6.own.2)
                  | (go_at_call 17; refine (TK.out _ _ h6).mono ?_; rintro e w7 ⟨rfl, h7⟩; clear TK h6 a0 a1 a2))
                go_roundw
                case rel => exact ⟨j + 1, _, _, G', by omega, by omega, by go_num, Lib.hid (REL.out _ _ _ _ _ _ G' INVx.out hKm GXX.out (fun W h => h.1) h7)⟩
                case measure => simp [intOf]; omega
              · have t4 : (m2 == 0) = false := beq_eq_false_iff_ne.2 e2
                clear e2 INVt TK
                obtain ⟨G', hG'⟩ : ∃ G', G' = G ++ [(i, K.gen 0 i, false)] := ⟨_, rfl⟩
                obtain ⟨gx1, gx2, gx3⟩ := GX.out false
                rw [← hG'] at gx1 gx2 gx3
                have INVx := INVf
                rw [← hG'] at INVx
                clear hG' GX
                have PU : Hid (∀ W s b9, H2 w d r p q (N1 K 0 i) J (fun W' => (OwnI W' q.hi (.slice A7 G.length c7) (G.map gI) ∧ OwnB W' q.hi (.slice A8 G.length c8) (G.map (·.2.2))) ∧ W'.heap[b9]? = some (.cells #[.int .i64 0, .int .i64 (i : Int), .int .i64 (K.gen 0 i : Int)] 33)) W → q.hi ≤ b9 → (∀ g, (Value.slice A7 G.length c7).ownBlock = some g → g < b9) → W.heap.size = s →
                    ∃ v' w1, (∃ A c, v' = .slice A G'.length c) ∧ Hid ((Builtin.append_ #[40, 40] 40 #[.slice A7 G.length c7, .slice (some ⟨s, 0, none⟩) 1 1]).run Try.prog (W.alloc (.cells #[.int .i64 0, .int .i64 (i : Int), .int .i64 (K.gen 0 i : Int)] 33)) = .ok v' w1) ∧
                      ∃ u' w2, (∃ A c, u' = .slice A G'.length c) ∧ Hid ((Builtin.append_ #[41, 41] 41 #[.slice A8 G.length c8, .slice (some ⟨w1.heap.size, 0, none⟩) 1 1]).run Try.prog (w1.alloc (.cells #[.bool false] 4)) = .ok u' w2) ∧
                        H2 w d r p q (N1 K 0 i) J (fun W' => (OwnI W' q.hi v' (G'.map gI) ∧ OwnB W' q.hi u' (G'.map (·.2.2))) ∧ W'.heap[b9]? = some (.cells #[.int .i64 0, .int .i64 (i : Int), .int .i64 (K.gen 0 i : Int)] 33)) w2) := Lib.hid fun W s b9 h hb hv hs => by
                  have := push2 (x := ((0 : Int), (i : Int), (K.gen 0 i : Int))) h hb hv hs ⟨by rw [List.length_map]; exact hGl, by rw [List.length_map]; exact hGl⟩ false
                  rw [← gx1, ← gx2, List.length_map, List.length_map] at this
                  exact this
                have GXX : Hid (G'.length ≤ j + 1) := Lib.hid gx3
                clear gx1 gx2 gx3
                generalize N1 K 0 i = K9 at *
                generalize (K.gen 0 i : Int) = y3 at *
                generalize hy2 : (i : Int) = y2 at *
                clear hy2
                go_wp2_with (first
                  | (go_at_call 14; refine (MD3.out _).mono ?_; rintro e w' ⟨rfl, rfl⟩; clear MD3)
                  | (go_at_call 15; refine NL1.out.mono ?_; rintro e w3 ⟨rfl, hs3, h3⟩; have h4 := h3.box (.cells #[.int .i64 0, .int .i64 y2, .int .i64 y3] 33); have hv3 := hvb.out w3 hs3; have hq3 := h3.qa.top; clear NL1; obtain ⟨v', w5, ⟨A5, c5, rfl⟩, HRUN, u', w6, ⟨A6, c6, rfl⟩, HRUN2, h6⟩ := PU.out _ (w3.heap.size + 1) w3.heap.size h4 hq3 hv3 (by simp); clear PU; have c0' := HC.out _ h4.bel; obtain ⟨⟨a0, a1, a2⟩, _⟩ := box3 h4.own.2; clear h4)
                  | (go_at_call 14; refine (MD2.out _).mono ?_; rintro e w' ⟨rfl, rfl⟩; clear MD2)
                  | (at_builtin; refine wpList_append _ rfl (.tmp 88) (.tmp 90) _ _ rfl _ (.slice (some ⟨_, 0, none⟩) 1 1) rfl rfl _ _ HRUN.out ?_; clear HRUN a0 a1 a2 c0')
                  | (at_builtin; refine wpList_append _ rfl (.tmp 92) (.tmp 94) _ _ rfl _ (.slice (some ⟨_, 0, none⟩) 1 1) rfl rfl _ _ HRUN2.out ?_; clear HRUN2; obtain ⟨⟨a0, a1, a2⟩, _⟩ := box3 h6.own.2)
                  | fail)
                go_roundw
                case rel => exact ⟨j + 1, _, _, G', by omega, by omega, by go_num, Lib.hid (REL.out _ _ _ _ _ _ G' INVx.out hKm GXX.out (fun W h => h.1) h6)⟩
                case measure => simp [intOf]; omega
            · have eJ := eR hb
              rw [if_neg hb] at NL1
              clear eB eR hb
              have RS : Hid (∀ W R, H2 w d r p q (N1 K 0 i) J R W → Calls Try.prog 16 #[.pointer (some ⟨r, 0, none⟩), .int .i64 0, .int .i64 (i : Int)] W fun e w' => e = .returned (.int .i64 0) ∧ H2 w d r p q (N1 K 0 i) (setBnd J 0 i (bd K 0 i)) R w') := Lib.hid fun W R h => h.reserveR 0 (i : Int) eJ
              have ti : (i : Int) ≥ 0 := by omega
              clear eJ
              by_cases e2 : m2 = 0
              · have t4 : (m2 == 0) = true := beq_iff_eq.2 e2
                clear e2 INVf
                obtain ⟨G', hG'⟩ : ∃ G', G' = G ++ [(i, K.gen 0 i, true)] := ⟨_, rfl⟩
                obtain ⟨gx1, gx2, gx3⟩ := GX.out true
                rw [← hG'] at gx1 gx2 gx3
                have INVx := INVt
                rw [← hG'] at INVx
                clear hG' GX
                have PU : Hid (∀ W s b9, H2 w d r p q (N1 K 0 i) (setBnd J 0 i (bd K 0 i)) (fun W' => (OwnI W' q.hi (.slice A7 G.length c7) (G.map gI) ∧ OwnB W' q.hi (.slice A8 G.length c8) (G.map (·.2.2))) ∧ W'.heap[b9]? = some (.cells #[.int .i64 0, .int .i64 (i : Int), .int .i64 (K.gen 0 i : Int)] 33)) W → q.hi ≤ b9 → (∀ g, (Value.slice A7 G.length c7).ownBlock = some g → g < b9) → W.heap.size = s →
                    ∃ v' w1, (∃ A c, v' = .slice A G'.length c) ∧ Hid ((Builtin.append_ #[40, 40] 40 #[.slice A7 G.length c7, .slice (some ⟨s, 0, none⟩) 1 1]).run Try.prog (W.alloc (.cells #[.int .i64 0, .int .i64 (i : Int), .int .i64 (K.gen 0 i : Int)] 33)) = .ok v' w1) ∧
                      ∃ u' w2, (∃ A c, u' = .slice A G'.length c) ∧ Hid ((Builtin.append_ #[41, 41] 41 #[.slice A8 G.length c8, .slice (some ⟨w1.heap.size, 0, none⟩) 1 1]).run Try.prog (w1.alloc (.cells #[.bool true] 4)) = .ok u' w2) ∧
                        H2 w d r p q (N1 K 0 i) (setBnd J 0 i (bd K 0 i)) (fun W' => (OwnI W' q.hi v' (G'.map gI) ∧ OwnB W' q.hi u' (G'.map (·.2.2))) ∧ W'.heap[b9]? = some (.cells #[.int .i64 0, .int .i64 (i : Int), .int .i64 (K.gen 0 i : Int)] 33)) w2) := Lib.hid fun W s b9 h hb hv hs => by
                  have := push2 (x := ((0 : Int), (i : Int), (K.gen 0 i : Int))) h hb hv hs ⟨by rw [List.length_map]; exact hGl, by rw [List.length_map]; exact hGl⟩ true
                  rw [← gx1, ← gx2, List.length_map, List.length_map] at this
                  exact this
                have GXX : Hid (G'.length ≤ j + 1) := Lib.hid gx3
                clear gx1 gx2 gx3
                generalize N1 K 0 i = K9 at *
                generalize (K.gen 0 i : Int) = y3 at *
                generalize hy2 : (i : Int) = y2 at *
                generalize J1 K J i true = J9 at *
                generalize setBnd J 0 i (bd K 0 i) = J8 at *
                clear hy2
                go_wp2_with (first
                  | (go_at_call 14; refine (MD3.out _).mono ?_; rintro e w' ⟨rfl, rfl⟩; clear MD3)
                  | (go_at_call 15; refine NL1.out.mono ?_; rintro e w3 ⟨rfl, hs3, h3⟩; have h4 := h3.box (.cells #[.int .i64 0, .int .i64 y2, .int .i64 y3] 33); have hv3 := hvb.out w3 hs3; have hq3 := h3.qa.top; clear NL1)
                  | (go_at_call 16; refine (RS.out _ _ h4).mono ?_; rintro e w4 ⟨rfl, h5⟩; clear RS h4; obtain ⟨v', w5, ⟨A5, c5, rfl⟩, HRUN, u', w6, ⟨A6, c6, rfl⟩, HRUN2, h6⟩ := PU.out _ w4.heap.size w3.heap.size h5 hq3 hv3 rfl; clear PU; have c0' := HC.out _ h5.bel; obtain ⟨⟨a0, a1, a2⟩, _⟩ := box3 h5.own.2; clear h5)
                  | (go_at_call 14; refine (MD2.out _).mono ?_; rintro e w' ⟨rfl, rfl⟩; clear MD2)
                  | (at_builtin; refine wpList_append _ rfl (.tmp 88) (.tmp 90) _ _ rfl _ (.slice (some ⟨_, 0, none⟩) 1 1) rfl rfl _ _ HRUN.out ?_; clear HRUN a0 a1 a2 c0')
                  | (at_builtin; refine wpList_append _ rfl (.tmp 92) (.tmp 94) _ _ rfl _ (.slice (some ⟨_, 0, none⟩) 1 1) rfl rfl _ _ HRUN2.out ?_; clear HRUN2; obtain ⟨⟨a0, a1, a2⟩, _⟩ := box3 h6.own.2)
                  | (go_at_call 17; refine (TK.out _ _ h6).mono ?_; rintro e w7 ⟨rfl, h7⟩; clear TK h6 a0 a1 a2))
                go_roundw
                case rel => exact ⟨j + 1, _, _, G', by omega, by omega, by go_num, Lib.hid (REL.out _ _ _ _ _ _ G' INVx.out hKm GXX.out (fun W h => h.1) h7)⟩
                case measure => simp [intOf]; omega
              · have t4 : (m2 == 0) = false := beq_eq_false_iff_ne.2 e2
                clear e2 INVt TK
                obtain ⟨G', hG'⟩ : ∃ G', G' = G ++ [(i, K.gen 0 i, false)] := ⟨_, rfl⟩
                obtain ⟨gx1, gx2, gx3⟩ := GX.out false
                rw [← hG'] at gx1 gx2 gx3
                have INVx := INVf
                rw [← hG'] at INVx
                clear hG' GX
                have PU : Hid (∀ W s b9, H2 w d r p q (N1 K 0 i) (setBnd J 0 i (bd K 0 i)) (fun W' => (OwnI W' q.hi (.slice A7 G.length c7) (G.map gI) ∧ OwnB W' q.hi (.slice A8 G.length c8) (G.map (·.2.2))) ∧ W'.heap[b9]? = some (.cells #[.int .i64 0, .int .i64 (i : Int), .int .i64 (K.gen 0 i : Int)] 33)) W → q.hi ≤ b9 → (∀ g, (Value.slice A7 G.length c7).ownBlock = some g → g < b9) → W.heap.size = s →
                    ∃ v' w1, (∃ A c, v' = .slice A G'.length c) ∧ Hid ((Builtin.append_ #[40, 40] 40 #[.slice A7 G.length c7, .slice (some ⟨s, 0, none⟩) 1 1]).run Try.prog (W.alloc (.cells #[.int .i64 0, .int .i64 (i : Int), .int .i64 (K.gen 0 i : Int)] 33)) = .ok v' w1) ∧
                      ∃ u' w2, (∃ A c, u' = .slice A G'.length c) ∧ Hid ((Builtin.append_ #[41, 41] 41 #[.slice A8 G.length c8, .slice (some ⟨w1.heap.size, 0, none⟩) 1 1]).run Try.prog (w1.alloc (.cells #[.bool false] 4)) = .ok u' w2) ∧
                        H2 w d r p q (N1 K 0 i) (setBnd J 0 i (bd K 0 i)) (fun W' => (OwnI W' q.hi v' (G'.map gI) ∧ OwnB W' q.hi u' (G'.map (·.2.2))) ∧ W'.heap[b9]? = some (.cells #[.int .i64 0, .int .i64 (i : Int), .int .i64 (K.gen 0 i : Int)] 33)) w2) := Lib.hid fun W s b9 h hb hv hs => by
                  have := push2 (x := ((0 : Int), (i : Int), (K.gen 0 i : Int))) h hb hv hs ⟨by rw [List.length_map]; exact hGl, by rw [List.length_map]; exact hGl⟩ false
                  rw [← gx1, ← gx2, List.length_map, List.length_map] at this
                  exact this
                have GXX : Hid (G'.length ≤ j + 1) := Lib.hid gx3
                clear gx1 gx2 gx3
                generalize N1 K 0 i = K9 at *
                generalize (K.gen 0 i : Int) = y3 at *
                generalize hy2 : (i : Int) = y2 at *
                generalize setBnd J 0 i (bd K 0 i) = J8 at *
                clear hy2
                go_wp2_with (first
                  | (go_at_call 14; refine (MD3.out _).mono ?_; rintro e w' ⟨rfl, rfl⟩; clear MD3)
                  | (go_at_call 15; refine NL1.out.mono ?_; rintro e w3 ⟨rfl, hs3, h3⟩; have h4 := h3.box (.cells #[.int .i64 0, .int .i64 y2, .int .i64 y3] 33); have hv3 := hvb.out w3 hs3; have hq3 := h3.qa.top; clear NL1)
                  | (go_at_call 16; refine (RS.out _ _ h4).mono ?_; rintro e w4 ⟨rfl, h5⟩; clear RS h4; obtain ⟨v', w5, ⟨A5, c5, rfl⟩, HRUN, u', w6, ⟨A6, c6, rfl⟩, HRUN2, h6⟩ := PU.out _ w4.heap.size w3.heap.size h5 hq3 hv3 rfl; clear PU; have c0' := HC.out _ h5.bel; obtain ⟨⟨a0, a1, a2⟩, _⟩ := box3 h5.own.2; clear h5)
                  | (go_at_call 14; refine (MD2.out _).mono ?_; rintro e w' ⟨rfl, rfl⟩; clear MD2)
                  | (at_builtin; refine wpList_append _ rfl (.tmp 88) (.tmp 90) _ _ rfl _ (.slice (some ⟨_, 0, none⟩) 1 1) rfl rfl _ _ HRUN.out ?_; clear HRUN a0 a1 a2 c0')
                  | (at_builtin; refine wpList_append _ rfl (.tmp 92) (.tmp 94) _ _ rfl _ (.slice (some ⟨_, 0, none⟩) 1 1) rfl rfl _ _ HRUN2.out ?_; clear HRUN2; obtain ⟨⟨a0, a1, a2⟩, _⟩ := box3 h6.own.2)
                  | fail)
                go_roundw
                case rel => exact ⟨j + 1, _, _, G', by omega, by omega, by go_num, Lib.hid (REL.out _ _ _ _ _ _ G' INVx.out hKm GXX.out (fun W h => h.1) h6)⟩
                case measure => simp [intOf]; omega
        · have t3 : ¬ m3 > 0 := e3
          clear e3 MD2
          by_cases h0 : 0 < G.length
          · have t5 : ((G.length : Int) == 0) = false := beq_eq_false_iff_ne.2 (by omega)
            have DV : Hid (∀ W : World, Calls Try.prog 14 #[.int .i64 (n.tdiv 3), .int .i64 (G.length : Int)] W fun e w' => ∃ z : Nat, z < G.length ∧ e = .returned (.int .i64 (z : Int)) ∧ W = w') := Lib.hid fun W => div_mod n 3 G.length W h0 (by omega)
            have wq := half_index hI 3 (by decide)
            clear HC
            have hlen := Lib.hid HA.out.len
            have hKm := HA.out.m
            have FG : Hid (∀ z (hz : z < G.length), ∃ g o c, (Value.slice A7 G.length c7) = .slice (some ⟨g, o, none⟩) G.length c ∧ (∀ W, H2 w d r p q K J (fun W => OwnI W q.hi (.slice A7 G.length c7) (G.map gI) ∧ OwnB W q.hi (.slice A8 G.length c8) (G.map (·.2.2))) W → True) ∧ (wr.cell? ⟨g, o + z * 3, none⟩ = some (.int .i64 0) ∧ wr.cell? ⟨g, o + z * 3 + 1, none⟩ = some (.int .i64 (G[z].1 : Int)) ∧ wr.cell? ⟨g, o + z * 3 + 2, none⟩ = some (.int .i64 (G[z].2.1 : Int)))) := Lib.hid fun z hz => by
              obtain ⟨g, o, c, e, _, _, hc, _⟩ := id_at HA.out.h2.own.1 (j := z) (by rw [List.length_map]; exact hz)
              rw [List.length_map] at e
              simp only [List.getElem_map] at hc
              exact ⟨g, o, c, e, fun _ _ => trivial, hc⟩
            have CX : Hid (∀ K9 J9 W, H2 w d r p q K9 J9 (fun W => OwnI W q.hi (.slice A7 G.length c7) (G.map gI) ∧ OwnB W q.hi (.slice A8 G.length c8) (G.map (·.2.2))) W → ∀ z (hz : z < G.length), (∃ g o c, (Value.slice A7 G.length c7) = .slice (some ⟨g, o, none⟩) G.length c ∧ (W.cell? ⟨g, o + z * 3, none⟩ = some (.int .i64 0) ∧ W.cell? ⟨g, o + z * 3 + 1, none⟩ = some (.int .i64 (G[z].1 : Int)) ∧ W.cell? ⟨g, o + z * 3 + 2, none⟩ = some (.int .i64 (G[z].2.1 : Int)))) ∧ ∃ g o c, (Value.slice A8 G.length c8) = .slice (some ⟨g, o, none⟩) G.length c ∧ W.cell? ⟨g, o + z, none⟩ = some (.bool G[z].2.2)) := Lib.hid fun K9 J9 W h z hz => by
              obtain ⟨g, o, c, e, _, _, hc, _⟩ := id_at h.own.1 (j := z) (by rw [List.length_map]; exact hz)
              rw [List.length_map] at e
              simp only [List.getElem_map] at hc
              obtain ⟨g2, o2, c2, e2, hc2⟩ := bool_at h.own.2 (j := z) (by rw [List.length_map]; exact hz)
              rw [List.length_map] at e2
              simp only [List.getElem_map] at hc2
              exact ⟨⟨g, o, c, e, hc⟩, g2, o2, c2, e2, hc2⟩
            have FV : Hid (∀ z (hz : z < G.length), _) := Lib.hid fun z hz => free_given HA.out.inv (List.getElem_mem hz)
            go_upto_region 23 with (first
              | (go_at_call 14; refine (MD3.out _).mono ?_; rintro e w' ⟨rfl, rfl⟩; clear MD3)
              | (go_at_call 14; refine (DV.out _).mono ?_; rintro e w' ⟨z, hz, rfl, rfl⟩; clear DV))
            have hzi : (z : Int) < (G.length : Int) := by omega
            obtain ⟨⟨g7, o7, cc7, e7, z0, z1, z2⟩, g8, o8, cc8, e8, zb⟩ := CX.out K J wr HA.out.h2 z hz
            have fv := FV.out z hz
            have CZ : Hid (∀ K9 J9 W, H2 w d r p q K9 J9 (fun W => OwnI W q.hi (.slice A7 G.length c7) (G.map gI) ∧ OwnB W q.hi (.slice A8 G.length c8) (G.map (·.2.2))) W → (W.cell? ⟨g7, o7 + z * 3, none⟩ = some (.int .i64 0) ∧ W.cell? ⟨g7, o7 + z * 3 + 1, none⟩ = some (.int .i64 (G[z].1 : Int)) ∧ W.cell? ⟨g7, o7 + z * 3 + 2, none⟩ = some (.int .i64 (G[z].2.1 : Int))) ∧ W.cell? ⟨g8, o8 + z, none⟩ = some (.bool G[z].2.2)) := Lib.hid fun K9 J9 W h => by
              obtain ⟨⟨g, o, c, e, hc⟩, g2, o2, c2, e2, hc2⟩ := CX.out K9 J9 W h z hz
              rw [e7] at e
              rw [e8] at e2
              cases e
              cases e2
              exact ⟨hc, hc2⟩
            clear CX FV FG
            cases e7
            cases e8
            have HG := Lib.hid HA.out.h2
            have HIV := Lib.hid HA.out.inv
            have INX : Hid (∀ b : Bool, b = G[z].2.2 → Inv K J G ∧ (Inv (freed K 0 G[z].1) (if G[z].2.2 then freed J 0 G[z].1 else J) G → Inv (freed K 0 G[z].1) (if b then freed J 0 G[z].1 else J) G)) := Lib.hid fun b hb => ⟨HIV.out, fun h => by rw [hb]; exact h⟩
            have hKf : (freed K 0 G[z].1).m = m := (freed_nm K G[z].1).2.trans hKm
            rcases fv with ⟨n9, hn9, eF⟩ | ⟨eF, IF, eF2⟩
            · have FF : Hid (Calls Try.prog 18 #[.pointer (some ⟨d, 0, none⟩), .agg #[.int .i64 0, .int .i64 (G[z].1 : Int), .int .i64 (G[z].2.1 : Int)]] wr fun e w' => e = .returned (.int .i64 (n9 : Int)) ∧ H2 w d r p q K J (fun W => OwnI W q.hi (.slice (some ⟨g7, o7, none⟩) G.length c7) (G.map gI) ∧ OwnB W q.hi (.slice (some ⟨g8, o8, none⟩) G.length c8) (G.map (·.2.2))) w') := Lib.hid (HG.out.freeL 0 _ _ eF)
              have t6 : ((n9 : Int) == 0) = false := beq_eq_false_iff_ne.2 (by omega)
              clear eF hn9 CZ INX
              generalize (G[z].1 : Int) = y1 at *
              generalize (G[z].2.1 : Int) = y2 at *
              generalize G[z].2.2 = y3 at *
              go_wp2_with (go_at_call 18; refine FF.out.mono ?_; rintro e w8 ⟨rfl, h8⟩; clear FF)
              go_roundw
              case rel => exact ⟨j + 1, _, _, G, by omega, by omega, by go_num, Lib.hid (REL.out _ _ _ _ _ _ G HIV.out hKm (by have := hlen.out; omega) (fun W h => h) h8)⟩
              case measure => simp [intOf]; omega
            · have FF : Hid (Calls Try.prog 18 #[.pointer (some ⟨d, 0, none⟩), .agg #[.int .i64 0, .int .i64 (G[z].1 : Int), .int .i64 (G[z].2.1 : Int)]] wr fun e w' => e = .returned (.int .i64 0) ∧ H2 w d r p q (freed K 0 G[z].1) J (fun W => OwnI W q.hi (.slice (some ⟨g7, o7, none⟩) G.length c7) (G.map gI) ∧ OwnB W q.hi (.slice (some ⟨g8, o8, none⟩) G.length c8) (G.map (·.2.2))) w') := Lib.hid (HG.out.freeL 0 _ _ eF)
              have IF := Lib.hid IF
              have E2 := Lib.hid eF2
              clear eF eF2 z0 z1 z2 zb
              obtain ⟨⟨z0, z1, z2⟩, zb⟩ := CZ.out K J wr HG.out
              cases hb : G[z].2.2 with
              | false =>
                have IF := Lib.hid ((INX.out false hb.symm).2 IF.out)
                rw [hb] at zb CZ
                clear hb E2 INX
                generalize freed K 0 G[z].1 = K9 at *
                generalize (G[z].1 : Int) = y1 at *
                generalize (G[z].2.1 : Int) = y2 at *
                go_wp2_with (go_at_call 18; refine FF.out.mono ?_; rintro e w8 ⟨rfl, h8⟩; clear FF z0 z1 z2 zb; obtain ⟨⟨z0, z1, z2⟩, zb⟩ := CZ.out _ _ _ h8)
                go_roundw
                case rel => exact ⟨j + 1, _, _, G, by omega, by omega, by go_num, Lib.hid (REL.out _ _ _ _ _ _ G IF.out hKf (by have := hlen.out; omega) (fun W h => h) h8)⟩
                case measure => simp [intOf]; omega
              | true =>
                have IF := Lib.hid ((INX.out true hb.symm).2 IF.out)
                have F2 : Hid (∀ W R, H2 w d r p q (freed K 0 G[z].1) J R W → Calls Try.prog 18 #[.pointer (some ⟨r, 0, none⟩), .agg #[.int .i64 0, .int .i64 (G[z].1 : Int), .int .i64 (G[z].2.1 : Int)]] W fun e w' => e = .returned (.int .i64 0) ∧ H2 w d r p q (freed K 0 G[z].1) (freed J 0 G[z].1) R w') := Lib.hid fun W R h => h.freeR 0 _ _ (E2.out hb)
                rw [hb] at zb CZ
                clear hb E2 INX
                generalize freed K 0 G[z].1 = K9 at *
                generalize freed J 0 G[z].1 = J9 at *
                generalize (G[z].1 : Int) = y1 at *
                generalize (G[z].2.1 : Int) = y2 at *
                go_wp2_with (first
                  | (go_at_call 18; refine FF.out.mono ?_; rintro e w8 ⟨rfl, h8⟩; clear FF z0 z1 z2 zb; obtain ⟨⟨z0, z1, z2⟩, zb⟩ := CZ.out _ _ _ h8)
                  | (go_at_call 18; refine (F2.out _ _ h8).mono ?_; rintro e w9 ⟨rfl, h9⟩; clear F2))
                go_roundw
                case rel => exact ⟨j + 1, _, _, G, by omega, by omega, by go_num, Lib.hid (REL.out _ _ _ _ _ _ G IF.out hKf (by have := hlen.out; omega) (fun W h => h) h9)⟩
                case measure => simp [intOf]; omega
          · have t5 : ((G.length : Int) == 0) = true := beq_iff_eq.2 (by omega)
            clear HC
            go_wp2_with (first
              | (go_at_call 14; refine (MD3.out _).mono ?_; rintro e w' ⟨rfl, rfl⟩; clear MD3)
              | fail)
            go_roundw
            case rel => exact ⟨j + 1, _, _, G, by omega, by omega, by go_num, Lib.hid (REL.out _ _ _ _ _ _ G HA.out.inv HA.out.m (by have := HA.out.len; omega) (fun W h => h) HA.out.h2)⟩
            case measure => simp [intOf]; omega
      · have t2 : ¬ (j : Int) < 60 := by omega
        have HO0 : Hid (Calls Try.prog 19 #[.pointer (some ⟨r, 0, none⟩)] wr fun e w' => (∃ n : Nat, e = .returned (.int .i64 (n : Int))) ∧ Hid (Of w d r p q (.slice A7 G.length c7) (.slice A8 G.length c8) K (Ids.lapse J).1 G w')) := Lib.hid (by
          refine (HA.out.h2.lapseR (J' := (Ids.lapse J).1) (n := (Ids.lapse J).2) rfl).mono ?_
          rintro e w' ⟨rfl, h⟩
          exact ⟨⟨_, rfl⟩, Lib.hid ⟨h, HA.out.inv.lapse⟩⟩)
        generalize (Ids.lapse J).1 = J1 at *
        have hGl : G.length ≤ 60 := by have := HA.out.len; omega
        clear HA HR HI
        go_wp2_with (go_at_call 19; refine HO0.out.mono ?_; rintro e w2 ⟨⟨n2, rfl⟩, HO1⟩; clear HO0)
        go_loopw [17] (fun i wr => ∃ (z : Nat) (J2 : St), z ≤ 2 * m ∧ i = .int .i64 z ∧ Hid (Of w d r p q (.slice A7 G.length c7) (.slice A8 G.length c8) K J2 G wr)) (fun i _ => 2 * m - (intOf i).toNat)
        case atStart => exact ⟨0, _, Nat.zero_le _, rfl, HO1⟩
        case round =>
          obtain ⟨z, J2, hz, rfl, HO⟩ := hrel
          clear HO1
          by_cases hzl : z < 2 * m
          · have t9 : (z : Int) < 2 * (m : Int) := by omega
            obtain ⟨J3, x, a, bo, eN, AF, HB⟩ := HO.out.2.next HO.out.1.qa.ok
            have NX : Hid (Calls Try.prog 15 #[.pointer (some ⟨r, 0, none⟩), .int .i64 0] wr fun e w' => e = .returned (.tuple #[.agg #[.int .i64 x.1, .int .i64 (x.2.1 : Nat), .int .i64 (x.2.2 : Nat)], .int .i64 a, .bool bo]) ∧ H2 w d r p q K J3 (Rg q (.slice A7 G.length c7) (.slice A8 G.length c8) G) w') := Lib.hid (HO.out.1.nxtR 0 eN)
            clear HO eN
            cases bo with
            | false =>
              have AF := Lib.hid AF
              clear HB
              go_wp2_with (go_at_call 15; refine NX.out.mono ?_; rintro e w3 ⟨rfl, h3⟩; have H4 := Lib.hid (h3.box (.cells #[.int .i64 x.1, .int .i64 (x.2.1 : Int), .int .i64 (x.2.2 : Int)] 33)); clear NX h3)
              obtain ⟨b9, hb9⟩ : ∃ b9, b9 = w3.heap.size := ⟨_, rfl⟩
              rw [← hb9] at H4 ⊢
              clear hb9
              go_loopw [21] (fun i wr => ∃ k : Nat, k ≤ G.length ∧ i = .int .i64 k ∧ Hid (H2 w d r p q K J3 (fun W' => Rg q (.slice A7 G.length c7) (.slice A8 G.length c8) G W' ∧ W'.heap[b9]? = some (.cells #[.int .i64 x.1, .int .i64 (x.2.1 : Int), .int .i64 (x.2.2 : Int)] 33)) wr)) (fun i _ => G.length - (intOf i).toNat)
              case atStart => exact ⟨0, Nat.zero_le _, rfl, H4⟩
              case round =>
                obtain ⟨k, hk, rfl, H5⟩ := hrel
                clear H4
                by_cases hkl : k < G.length
                · have t10 : (k : Int) < (G.length : Int) := by omega
                  go_wp2_with (fail)
                  go_quiet (fail)
                  go_wp2
                  go_roundw
                  case rel => exact ⟨k + 1, by omega, by go_num, Lib.hid (H5.out.below (below_dn _ _))⟩
                  case measure => simp [intOf]; omega
                · have t10 : ¬ (k : Int) < (G.length : Int) := by omega
                  go_wp2_with (fail)
                  go_roundw
                  case rel => exact ⟨z + 1, J3, by omega, by go_num, Lib.hid ⟨H5.out.imp (fun h => h.1) (kept_two _ _ _ _ _), AF.out⟩⟩
                  case measure => simp [intOf]; omega
            | true =>
              obtain ⟨NE, J4, eF, AF4⟩ := HB rfl
              have AF := Lib.hid AF
              have AF4 := Lib.hid AF4
              have FR : Hid (∀ W R, H2 w d r p q K J3 R W → Calls Try.prog 18 #[.pointer (some ⟨r, 0, none⟩), .agg #[.int .i64 x.1, .int .i64 (x.2.1 : Int), .int .i64 (x.2.2 : Int)]] W fun e w' => e = .returned (.int .i64 0) ∧ H2 w d r p q K J4 R w') := Lib.hid fun W R h => h.freeR x.1 (x.2.1 : Int) (x.2.2 : Int) eF
              have NE := Lib.hid NE
              clear HB eF
              go_wp2_with (go_at_call 15; refine NX.out.mono ?_; rintro e w3 ⟨rfl, h3⟩; have H4 := Lib.hid (h3.box (.cells #[.int .i64 x.1, .int .i64 (x.2.1 : Int), .int .i64 (x.2.2 : Int)] 33)); clear NX h3)
              obtain ⟨b9, hb9⟩ : ∃ b9, b9 = w3.heap.size := ⟨_, rfl⟩
              rw [← hb9] at H4 ⊢
              clear hb9
              go_loopw [21] (fun i wr => ∃ k : Nat, k ≤ G.length ∧ i = .int .i64 k ∧ Hid (H2 w d r p q K J3 (fun W' => Rg q (.slice A7 G.length c7) (.slice A8 G.length c8) G W' ∧ W'.heap[b9]? = some (.cells #[.int .i64 x.1, .int .i64 (x.2.1 : Int), .int .i64 (x.2.2 : Int)] 33)) wr)) (fun i _ => G.length - (intOf i).toNat)
              case atStart => exact ⟨0, Nat.zero_le _, rfl, H4⟩
              case round =>
                obtain ⟨k, hk, rfl, H5⟩ := hrel
                clear H4
                by_cases hkl : k < G.length
                · have t10 : (k : Int) < (G.length : Int) := by omega
                  obtain ⟨g9, o9, c9, e9, z0, z1, z2⟩ := given_at H5.out.own.1.1 hkl
                  cases e9
                  obtain ⟨⟨a0, a1, a2⟩, _⟩ := box3 H5.out.own.2
                  have ne := NE.out G[k] (List.getElem_mem hkl)
                  have RL : Hid (∀ n, Hid (H2 w d r p q K J3 (fun W' => Rg q (.slice (some ⟨g9, o9, none⟩) G.length c7) (.slice A8 G.length c8) G W' ∧ W'.heap[b9]? = some (.cells #[.int .i64 x.1, .int .i64 (x.2.1 : Int), .int .i64 (x.2.2 : Int)] 33)) (wr.drewN n))) := Lib.hid fun n => Lib.hid (H5.out.below (below_dn _ _))
                  clear NE H5 FR
                  generalize (G[k].1 : Int) = y1 at *
                  generalize (G[k].2.1 : Int) = y2 at *
                  generalize (x.2.1 : Int) = x2 at *
                  generalize (x.2.2 : Int) = x3 at *
                  generalize x.1 = x1 at *
                  have cmp := cmp_no ne
                  clear ne
                  rcases cmp with q1 | ⟨q1, q2⟩ | ⟨q1, q2, q3⟩
                  · go_wp2_with (fail)
                    go_quiet (fail)
                    go_wp2
                    go_roundw
                    case rel => exact ⟨k + 1, by omega, by go_num, RL.out _⟩
                    case measure => simp [intOf]; omega
                  · go_wp2_with (fail)
                    go_quiet (fail)
                    go_wp2
                    go_roundw
                    case rel => exact ⟨k + 1, by omega, by go_num, RL.out _⟩
                    case measure => simp [intOf]; omega
                  · go_wp2_with (fail)
                    go_quiet (fail)
                    go_wp2
                    go_roundw
                    case rel => exact ⟨k + 1, by omega, by go_num, RL.out _⟩
                    case measure => simp [intOf]; omega
                · have t10 : ¬ (k : Int) < (G.length : Int) := by omega
                  obtain ⟨⟨a0, a1, a2⟩, _⟩ := box3 H5.out.own.2
                  have F5 := Lib.hid (FR.out _ _ H5.out)
                  clear FR NE
                  have zm : (z : Int).tmod 2 = ((z % 2 : Nat) : Int) := by rw [Int.tmod_eq_emod_of_nonneg (by omega)]; omega
                  rcases Nat.mod_two_eq_zero_or_one z with ez | ez
                  · rw [ez] at zm
                    go_wp2_with (fail)
                    go_roundw
                    case rel => exact ⟨z + 1, J3, by omega, by go_num, Lib.hid ⟨H5.out.imp (fun h => h.1) (kept_two _ _ _ _ _), AF.out⟩⟩
                    case measure => simp [intOf]; omega
                  · rw [ez] at zm
                    go_wp2_with (go_at_call 18; refine F5.out.mono ?_; rintro e w6 ⟨rfl, h6⟩; clear F5 a0 a1 a2)
                    go_roundw
                    case rel => exact ⟨z + 1, J4, by omega, by go_num, Lib.hid ⟨h6.imp (fun h => h.1) (kept_two _ _ _ _ _), AF4.out⟩⟩
                    case measure => simp [intOf]; omega
          · have t9 : ¬ (z : Int) < 2 * (m : Int) := by omega
            have HB := Lib.hid HO.out.1.bel
            clear HO
            go_wp2_with (go_at_call 11; refine (awake_any _).mono ?_; rintro e w9 ⟨rfl, hb9⟩; have b9 := HB.out.trans (hb9.mono HB.out.size); clear hb9)
            go_ret
            exact ⟨rfl, b9⟩
    · have t1 : ¬ (j : Int) < (l.length : Int) := by omega
      have HO0 : Hid (Calls Try.prog 19 #[.pointer (some ⟨r, 0, none⟩)] wr fun e w' => (∃ n : Nat, e = .returned (.int .i64 (n : Int))) ∧ Hid (Of w d r p q (.slice A7 G.length c7) (.slice A8 G.length c8) K (Ids.lapse J).1 G w')) := Lib.hid (by
        refine (HA.out.h2.lapseR (J' := (Ids.lapse J).1) (n := (Ids.lapse J).2) rfl).mono ?_
        rintro e w' ⟨rfl, h⟩
        exact ⟨⟨_, rfl⟩, Lib.hid ⟨h, HA.out.inv.lapse⟩⟩)
      generalize (Ids.lapse J).1 = J1 at *
      have hGl : G.length ≤ 60 := by have := HA.out.len; omega
      clear HA HR HI
      go_wp2_with (go_at_call 19; refine HO0.out.mono ?_; rintro e w2 ⟨⟨n2, rfl⟩, HO1⟩; clear HO0)
      go_loopw [17] (fun i wr => ∃ (z : Nat) (J2 : St), z ≤ 2 * m ∧ i = .int .i64 z ∧ Hid (Of w d r p q (.slice A7 G.length c7) (.slice A8 G.length c8) K J2 G wr)) (fun i _ => 2 * m - (intOf i).toNat)
      case atStart => exact ⟨0, _, Nat.zero_le _, rfl, HO1⟩
      case round =>
        obtain ⟨z, J2, hz, rfl, HO⟩ := hrel
        clear HO1
        by_cases hzl : z < 2 * m
        · have t9 : (z : Int) < 2 * (m : Int) := by omega
          obtain ⟨J3, x, a, bo, eN, AF, HB⟩ := HO.out.2.next HO.out.1.qa.ok
          have NX : Hid (Calls Try.prog 15 #[.pointer (some ⟨r, 0, none⟩), .int .i64 0] wr fun e w' => e = .returned (.tuple #[.agg #[.int .i64 x.1, .int .i64 (x.2.1 : Nat), .int .i64 (x.2.2 : Nat)], .int .i64 a, .bool bo]) ∧ H2 w d r p q K J3 (Rg q (.slice A7 G.length c7) (.slice A8 G.length c8) G) w') := Lib.hid (HO.out.1.nxtR 0 eN)
          clear HO eN
          cases bo with
          | false =>
            have AF := Lib.hid AF
            clear HB
            go_wp2_with (go_at_call 15; refine NX.out.mono ?_; rintro e w3 ⟨rfl, h3⟩; have H4 := Lib.hid (h3.box (.cells #[.int .i64 x.1, .int .i64 (x.2.1 : Int), .int .i64 (x.2.2 : Int)] 33)); clear NX h3)
            obtain ⟨b9, hb9⟩ : ∃ b9, b9 = w3.heap.size := ⟨_, rfl⟩
            rw [← hb9] at H4 ⊢
            clear hb9
            go_loopw [21] (fun i wr => ∃ k : Nat, k ≤ G.length ∧ i = .int .i64 k ∧ Hid (H2 w d r p q K J3 (fun W' => Rg q (.slice A7 G.length c7) (.slice A8 G.length c8) G W' ∧ W'.heap[b9]? = some (.cells #[.int .i64 x.1, .int .i64 (x.2.1 : Int), .int .i64 (x.2.2 : Int)] 33)) wr)) (fun i _ => G.length - (intOf i).toNat)
            case atStart => exact ⟨0, Nat.zero_le _, rfl, H4⟩
            case round =>
              obtain ⟨k, hk, rfl, H5⟩ := hrel
              clear H4
              by_cases hkl : k < G.length
              · have t10 : (k : Int) < (G.length : Int) := by omega
                go_wp2_with (fail)
                go_quiet (fail)
                go_wp2
                go_roundw
                case rel => exact ⟨k + 1, by omega, by go_num, Lib.hid (H5.out.below (below_dn _ _))⟩
                case measure => simp [intOf]; omega
              · have t10 : ¬ (k : Int) < (G.length : Int) := by omega
                go_wp2_with (fail)
                go_roundw
                case rel => exact ⟨z + 1, J3, by omega, by go_num, Lib.hid ⟨H5.out.imp (fun h => h.1) (kept_two _ _ _ _ _), AF.out⟩⟩
                case measure => simp [intOf]; omega
          | true =>
            obtain ⟨NE, J4, eF, AF4⟩ := HB rfl
            have AF := Lib.hid AF
            have AF4 := Lib.hid AF4
            have FR : Hid (∀ W R, H2 w d r p q K J3 R W → Calls Try.prog 18 #[.pointer (some ⟨r, 0, none⟩), .agg #[.int .i64 x.1, .int .i64 (x.2.1 : Int), .int .i64 (x.2.2 : Int)]] W fun e w' => e = .returned (.int .i64 0) ∧ H2 w d r p q K J4 R w') := Lib.hid fun W R h => h.freeR x.1 (x.2.1 : Int) (x.2.2 : Int) eF
            have NE := Lib.hid NE
            clear HB eF
            go_wp2_with (go_at_call 15; refine NX.out.mono ?_; rintro e w3 ⟨rfl, h3⟩; have H4 := Lib.hid (h3.box (.cells #[.int .i64 x.1, .int .i64 (x.2.1 : Int), .int .i64 (x.2.2 : Int)] 33)); clear NX h3)
            obtain ⟨b9, hb9⟩ : ∃ b9, b9 = w3.heap.size := ⟨_, rfl⟩
            rw [← hb9] at H4 ⊢
            clear hb9
            go_loopw [21] (fun i wr => ∃ k : Nat, k ≤ G.length ∧ i = .int .i64 k ∧ Hid (H2 w d r p q K J3 (fun W' => Rg q (.slice A7 G.length c7) (.slice A8 G.length c8) G W' ∧ W'.heap[b9]? = some (.cells #[.int .i64 x.1, .int .i64 (x.2.1 : Int), .int .i64 (x.2.2 : Int)] 33)) wr)) (fun i _ => G.length - (intOf i).toNat)
            case atStart => exact ⟨0, Nat.zero_le _, rfl, H4⟩
            case round =>
              obtain ⟨k, hk, rfl, H5⟩ := hrel
              clear H4
              by_cases hkl : k < G.length
              · have t10 : (k : Int) < (G.length : Int) := by omega
                obtain ⟨g9, o9, c9, e9, z0, z1, z2⟩ := given_at H5.out.own.1.1 hkl
                cases e9
                obtain ⟨⟨a0, a1, a2⟩, _⟩ := box3 H5.out.own.2
                have ne := NE.out G[k] (List.getElem_mem hkl)
                have RL : Hid (∀ n, Hid (H2 w d r p q K J3 (fun W' => Rg q (.slice (some ⟨g9, o9, none⟩) G.length c7) (.slice A8 G.length c8) G W' ∧ W'.heap[b9]? = some (.cells #[.int .i64 x.1, .int .i64 (x.2.1 : Int), .int .i64 (x.2.2 : Int)] 33)) (wr.drewN n))) := Lib.hid fun n => Lib.hid (H5.out.below (below_dn _ _))
                clear NE H5 FR
                generalize (G[k].1 : Int) = y1 at *
                generalize (G[k].2.1 : Int) = y2 at *
                generalize (x.2.1 : Int) = x2 at *
                generalize (x.2.2 : Int) = x3 at *
                generalize x.1 = x1 at *
                have cmp := cmp_no ne
                clear ne
                rcases cmp with q1 | ⟨q1, q2⟩ | ⟨q1, q2, q3⟩
                · go_wp2_with (fail)
                  go_quiet (fail)
                  go_wp2
                  go_roundw
                  case rel => exact ⟨k + 1, by omega, by go_num, RL.out _⟩
                  case measure => simp [intOf]; omega
                · go_wp2_with (fail)
                  go_quiet (fail)
                  go_wp2
                  go_roundw
                  case rel => exact ⟨k + 1, by omega, by go_num, RL.out _⟩
                  case measure => simp [intOf]; omega
                · go_wp2_with (fail)
                  go_quiet (fail)
                  go_wp2
                  go_roundw
                  case rel => exact ⟨k + 1, by omega, by go_num, RL.out _⟩
                  case measure => simp [intOf]; omega
              · have t10 : ¬ (k : Int) < (G.length : Int) := by omega
                obtain ⟨⟨a0, a1, a2⟩, _⟩ := box3 H5.out.own.2
                have F5 := Lib.hid (FR.out _ _ H5.out)
                clear FR NE
                have zm : (z : Int).tmod 2 = ((z % 2 : Nat) : Int) := by rw [Int.tmod_eq_emod_of_nonneg (by omega)]; omega
                rcases Nat.mod_two_eq_zero_or_one z with ez | ez
                · rw [ez] at zm
                  go_wp2_with (fail)
                  go_roundw
                  case rel => exact ⟨z + 1, J3, by omega, by go_num, Lib.hid ⟨H5.out.imp (fun h => h.1) (kept_two _ _ _ _ _), AF.out⟩⟩
                  case measure => simp [intOf]; omega
                · rw [ez] at zm
                  go_wp2_with (go_at_call 18; refine F5.out.mono ?_; rintro e w6 ⟨rfl, h6⟩; clear F5 a0 a1 a2)
                  go_roundw
                  case rel => exact ⟨z + 1, J4, by omega, by go_num, Lib.hid ⟨h6.imp (fun h => h.1) (kept_two _ _ _ _ _), AF4.out⟩⟩
                  case measure => simp [intOf]; omega
        · have t9 : ¬ (z : Int) < 2 * (m : Int) := by omega
          have HB := Lib.hid HO.out.1.bel
          clear HO
          go_wp2_with (go_at_call 11; refine (awake_any _).mono ?_; rintro e w9 ⟨rfl, hb9⟩; have b9 := HB.out.trans (hb9.mono HB.out.size); clear hb9)
          go_ret
          exact ⟨rfl, b9⟩
end Go.Proofs.Ytdanpdlbbgcidaa
