/- The law ArchCopies, walked. Written by wip/tools/gencopies.py. -/
import Derived.Test.YteohkbepefjjlaaKArPlays
import Derived.Test.YteohkbepefjjlaaKArRoom
namespace Go.Proofs.Yteohkbepefjjlaa
open Go.RowKit Pz Ar
set_option linter.unusedVariables false
set_option linter.unusedSimpArgs false

/-- two copies, made one after the other -/
theorem P2.pair {w W V : World} {t u : Tb} (hC : CS (Gr Foot.no w.heap.size W.heap.size) w.heap.size t W) (hb : Below w.heap.size w W) (hR : RS (Gr Foot.no W.heap.size V.heap.size) W.heap.size u V) (hb2 : Below W.heap.size W V) : P2 w w.heap.size W.heap.size t u [] V :=
  ⟨hb.trans (hb2.mono hb.size), _, _, hC.below hb2, hR, fun b hf hg => by
    rcases hf with hf | hf
    · exact hf
    · rcases hg with hg | hg
      · exact hg
      · omega, fun b hb' => by
    rcases hb' with (hb' | hb') | (hb' | hb')
    · exact hb'.elim
    · exact hb'.1
    · exact hb'.elim
    · have := hb.size; omega, fun x hx => by cases hx⟩
theorem P2.alikeB {w W : World} {s r : Nat} {t : Tb} {K : List (Nat × Obj)} (h : P2 w s r t t K W) (hl : total t ≤ 10000) : Calls Try.prog 14 #[.pointer (some ⟨s, 0, none⟩), .pointer (some ⟨r, 0, none⟩)] W fun e V => e = .returned (.bool true) ∧ Below W.heap.size W V := by
  obtain ⟨F, hC⟩ := h.cs
  obtain ⟨G, hR⟩ := h.rs
  exact alike_any hC hR hl
namespace Ar
theorem fold_take (t : Tb) (l : List Dd) {j : Nat} (hj : j < l.length) : (l.take (j + 1)).foldl deedT t = deedT ((l.take j).foldl deedT t) l[j] := by
  rw [List.take_add_one, List.getElem?_eq_getElem hj, List.foldl_append]
  rfl
theorem fold_le : ∀ (l : List Dd) (t : Tb) (n : Nat), Le t n → Le (l.foldl deedT t) (n + l.length) := fun l => by
  induction l with
  | nil => intro t n h; exact h
  | cons x l ih => intro t n h; rw [List.foldl_cons, List.length_cons]; exact (ih _ _ (le_step h x)).mono (by omega)
end Ar
theorem tabs_short {t : Tb} {n : Nat} (h : Le t n) (hn : n ≤ 1000000) : ∀ y ∈ tabs t, y.2.length ≤ 1000000 := fun x hx => by
  obtain ⟨m, hm, he⟩ := List.mem_filterMap.1 hx
  split at he
  · cases he
  · cases he
    rw [List.length_map]
    have := h m
    omega
set_option maxHeartbeats 32000000 in
set_option maxRecDepth 100000 in
theorem law_copies (w : World) (A : Option Addr) (c : Nat) (l0 : List Dd) (hc : l0.length ≤ c) (hcap : c ≤ 140737488351232) (hF : ∀ x ∈ l0, Fit x.b.m) (R : RdD w w.heap.size A l0)
    (A2 : Option Addr) (c2 : Nat) (m0 : List Dd) (hc2 : m0.length ≤ c2) (hcap2 : c2 ≤ 140737488351232) (hF2 : ∀ x ∈ m0, Fit x.b.m) (R2 : RdD w w.heap.size A2 m0) :
    Calls Try.prog 8 #[.slice A l0.length c, .slice A2 m0.length c2] w fun e w' => e = .returned (.bool true) ∧ Below w.heap.size w w' := by
  have N := Lib.hid (p1_new w)
  obtain ⟨s, hs⟩ : ∃ s, s = w.heap.size := ⟨_, rfl⟩
  have FW := Lib.hid fun W (hW : Below w.heap.size w W) => few_any ((R.below hW).more hW.size) hc hcap
  have FM := Lib.hid fun W (hW : Below w.heap.size w W) => few_any ((R2.below hW).more hW.size) hc2 hcap2
  obtain ⟨l, hl⟩ : ∃ l, l = l0.take 60 := ⟨_, rfl⟩
  obtain ⟨ms, hms⟩ : ∃ ms, ms = m0.take 60 := ⟨_, rfl⟩
  have hl6 : l.length ≤ 60 := by rw [hl, List.length_take]; omega
  have hm6 : ms.length ≤ 60 := by rw [hms, List.length_take]; omega
  have RX := Lib.hid fun W (hW : Below w.heap.size w W) => (R.take 60).below hW
  have RM := Lib.hid fun W (hW : Below w.heap.size w W) => (R2.take 60).below hW
  have FX : Hid (∀ x ∈ l, Fit x.b.m) := Lib.hid fun x hx => hF x (List.mem_of_mem_take (hl ▸ hx))
  have FY : Hid (∀ x ∈ ms, Fit x.b.m) := Lib.hid fun x hx => hF2 x (List.mem_of_mem_take (hms ▸ hx))
  rw [← hl] at RX FW
  rw [← hms] at RM FM
  rw [← hs] at N
  clear hl hs R hF hc hcap hms R2 hF2 hc2 hcap2
  have hn : (l.length : Int) ≤ 60 := by omega
  have hmn : (ms.length : Int) ≤ 60 := by omega
  have eA : (Array.replicate 32 (.slice none 0 0) : Array Value) = #[.slice none 0 0, .slice none 0 0, .slice none 0 0, .slice none 0 0, .slice none 0 0, .slice none 0 0, .slice none 0 0, .slice none 0 0, .slice none 0 0, .slice none 0 0, .slice none 0 0, .slice none 0 0, .slice none 0 0, .slice none 0 0, .slice none 0 0, .slice none 0 0, .slice none 0 0, .slice none 0 0, .slice none 0 0, .slice none 0 0, .slice none 0 0, .slice none 0 0, .slice none 0 0, .slice none 0 0, .slice none 0 0, .slice none 0 0, .slice none 0 0, .slice none 0 0, .slice none 0 0, .slice none 0 0, .slice none 0 0, .slice none 0 0] := rfl
  have AW := Lib.hid awake_any
  generalize l0.length = n0 at *
  generalize m0.length = n1 at *
  go_enter Try.func8, Try.ntmps8
  go_wp2_with (first
    | (go_at_call 11; refine N.out.mono ?_; rintro e w1 ⟨rfl, h1'⟩; have h1 := h1'.two; rw [eA] at h1; clear N h1' eA)
    | (go_at_call 12; refine (FW.out _ h1.bel).mono ?_; rintro e w2 ⟨⟨c', rfl⟩, rfl⟩; clear FW)
    | (go_at_call 12; refine (FM.out _ h1.bel).mono ?_; rintro e w3 ⟨⟨c'', rfl⟩, rfl⟩; have h2 := Lib.hid h1; clear FM h1))
  generalize w1.heap.size = r at *
  have h3 : Hid (P2 w s r (deeds (l.take 0)) (deeds (l.take 0)) [] _) := h2
  clear h2
  go_loopw [7] (fun i wr => ∃ j : Nat, j ≤ l.length ∧ i = .int .i64 j ∧ Hid (P2 w s r (deeds (l.take j)) (deeds (l.take j)) [] wr)) (fun i _ => l.length - (intOf i).toNat)
  case atStart => exact ⟨0, Nat.zero_le _, rfl, h3⟩
  case round =>
    obtain ⟨j, hj, rfl, HP⟩ := hrel
    clear h3
    by_cases hjn : j < l.length
    · have t1 : (j : Int) < (l.length : Int) := by omega
      have hT := deeds_take l hjn
      obtain ⟨g, o, rfl, _⟩ := RX.out wr HP.out.bel j _ (List.getElem?_eq_getElem hjn)
      have RC : Hid (∀ W, Below w.heap.size w W → W.cell? ⟨g, o + j * 12, none⟩ = some (.int .i64 l[j].k) ∧ W.cell? ⟨g, o + j * 12 + 1, none⟩ = some (.int .i64 l[j].b.s) ∧ W.cell? ⟨g, o + j * 12 + 2, none⟩ = some (.int .i64 l[j].b.i) ∧ W.cell? ⟨g, o + j * 12 + 3, none⟩ = some (.int .i64 l[j].b.g) ∧ W.cell? ⟨g, o + j * 12 + 4, none⟩ = some (.int .i64 l[j].b.m) ∧ W.cell? ⟨g, o + j * 12 + 5, none⟩ = some (.int .i64 l[j].b.x) ∧ W.cell? ⟨g, o + j * 12 + 6, none⟩ = some (.int .i64 l[j].b.y) ∧ W.cell? ⟨g, o + j * 12 + 7, none⟩ = some (.int .i64 l[j].b.vx) ∧ W.cell? ⟨g, o + j * 12 + 8, none⟩ = some (.int .i64 l[j].b.vy) ∧ W.cell? ⟨g, o + j * 12 + 9, none⟩ = some (.int .i64 l[j].b.h) ∧ W.cell? ⟨g, o + j * 12 + 10, none⟩ = some (.int .i64 l[j].b.p) ∧ W.cell? ⟨g, o + j * 12 + 11, none⟩ = some (.int .i64 l[j].b.l)) := Lib.hid fun W hW => by
        obtain ⟨g', o', e, _, hc⟩ := RX.out W hW j _ (List.getElem?_eq_getElem hjn)
        cases e
        exact hc
      have hLe : Le (deeds (l.take j)) 60 := (deeds_le _).mono (by rw [List.length_take]; omega)
      have SX := step_any HP.out l[j] (FX.out _ (List.getElem_mem hjn)) hLe hLe (by decide) (by decide)
      rw [← hT, deedB_self] at SX
      replace SX := Lib.hid SX
      have hb0 := HP.out.bel
      clear hT RX FX HP hLe RM FY AW
      simp only [Dd.val, Bn.val] at SX
      generalize l[j].k = y at *
      generalize l[j].b.s = y0 at *
      generalize l[j].b.i = y1 at *
      generalize l[j].b.g = y2 at *
      generalize l[j].b.m = y3 at *
      generalize l[j].b.x = y4 at *
      generalize l[j].b.y = y5 at *
      generalize l[j].b.vx = y6 at *
      generalize l[j].b.vy = y7 at *
      generalize l[j].b.h = y8 at *
      generalize l[j].b.p = y9 at *
      generalize l[j].b.l = y10 at *
      obtain ⟨k0, k1, k2, k3, k4, k5, k6, k7, k8, k9, k10, k11⟩ := RC.out _ hb0
      clear RC
      go_wp2_with (go_at_call 13; refine SX.out.mono ?_; rintro e w5 ⟨rfl, h5⟩; clear SX k0 k1 k2 k3 k4 k5 k6 k7 k8 k9 k10 k11)
      go_roundw
      case rel => exact ⟨j + 1, by omega, by go_num, Lib.hid h5⟩
      case measure => simp [intOf]; omega
    · obtain rfl : j = l.length := by omega
      have t1 : ¬ (l.length : Int) < (l.length : Int) := by omega
      rw [List.take_length] at HP
      have hLT : Le (deeds l) 60 := (deeds_le l).mono hl6
      clear RX FX
      generalize hTT : deeds l = TT at HP hLT
      clear hTT
      have htot := le_total hLT
      have CP : Hid (∀ W, P2 w s r TT TT [] W → Calls Try.prog 25 #[.pointer (some ⟨s, 0, none⟩)] W fun e V => e = .returned (.pointer (some ⟨W.heap.size, 0, none⟩)) ∧ CS (Gr Foot.no W.heap.size V.heap.size) W.heap.size TT V ∧ Below W.heap.size W V) := Lib.hid fun W h => by
        obtain ⟨F, hC⟩ := h.cs
        exact copy_any hC (by omega)
      have RP : Hid (∀ W, P2 w s r TT TT [] W → Calls Try.prog 29 #[.pointer (some ⟨r, 0, none⟩)] W fun e V => e = .returned (.pointer (some ⟨W.heap.size, 0, none⟩)) ∧ RS (Gr Foot.no W.heap.size V.heap.size) W.heap.size TT V ∧ Below W.heap.size W V) := Lib.hid fun W h => by
        obtain ⟨G, hR⟩ := h.rs
        exact rcopy_any hR (fun m hm => h.good.none hm)
      have TP : Hid (∀ W, P2 w s r TT TT [] W → Calls Try.prog 19 #[.pointer (some ⟨s, 0, none⟩)] W fun e V => ∃ A' n' c', e = .returned (.slice A' n' c') ∧ Below W.heap.size W V ∧ ∃ L : List TE, L.length = n' ∧ n' ≤ 32 ∧ Hid (RoomT V W.heap.size (.slice A' n' c') L ∧ ∀ x ∈ L, x.2.2.1 ≤ 1000000)) := Lib.hid fun W h => by
        obtain ⟨F, hC⟩ := h.cs
        refine (tables_any hC).mono ?_
        rintro e V ⟨A', c', rfl, hT, hb⟩
        obtain ⟨L, e1, e2, e3⟩ := hT.room (tabs_short hLT (by decide))
        exact ⟨_, _, _, rfl, hb, L, e1, by rw [tabs_to]; exact tabsTo_le TT 32, Lib.hid ⟨e2, e3⟩⟩
      have H7 := HP
      have HLT := Lib.hid hLT
      clear HP hLT htot
      generalize l.length = nl at *
      go_wp2_with (first
        | (go_at_call 25; refine (CP.out _ H7.out).mono ?_; rintro e w8 ⟨rfl, hC8, b8⟩; have h8 := H7.out.below b8; clear CP)
        | (go_at_call 29; refine (RP.out _ h8).mono ?_; rintro e w9 ⟨rfl, hR9, b9⟩; have P9 := P2.pair hC8 b8 hR9 b9; have h9 := h8.below b9; clear RP hC8 b8 hR9 b9 h8)
        | (go_at_call 19; refine (TP.out _ h9).mono ?_; rintro e w10 ⟨A10, n10, c10, rfl, b10, L, hLn, hL32, HRm⟩; clear TP h9))
      have hx10 : (n10 : Int) ≤ 32 := by omega
      obtain ⟨W7, hW7⟩ : ∃ W7, W7 = wr := ⟨_, rfl⟩
      rw [← hW7] at P9 H7 ⊢
      clear hW7
      generalize W7.heap.size = cp at P9 ⊢
      generalize w8.heap.size = xp at P9 ⊢
      have HN := Lib.hid HRm.out.2
      have HV : Hid (Below w9.heap.size w9 w10 ∧ RoomT w10 w9.heap.size (.slice A10 n10 c10) L) := Lib.hid ⟨b10, HRm.out.1⟩
      replace P9 := Lib.hid P9
      clear HRm b10
      go_loopw [11] (fun i wr => ∃ j : Nat, j ≤ n10 ∧ i = .int .i64 j ∧ Hid (Below w9.heap.size w9 wr ∧ RoomT wr w9.heap.size (.slice A10 n10 c10) L)) (fun i _ => n10 - (intOf i).toNat)
      case atStart => exact ⟨0, Nat.zero_le _, rfl, HV⟩
      case round =>
        obtain ⟨j, hj, rfl, HW⟩ := hrel
        clear HV
        by_cases hjn : j < n10
        · have t2 : (j : Int) < (n10 : Int) := by omega
          have hjL : j < L.length := by omega
          go_wp2
          go_loopw [12] (fun i wr => ∃ k : Nat, k ≤ L[j].2.2.1 ∧ i = .int .i64 k ∧ Hid (Below w9.heap.size w9 wr ∧ RoomT wr w9.heap.size (.slice A10 n10 c10) L)) (fun i _ => L[j].2.2.1 - (intOf i).toNat)
          case atStart => exact ⟨0, Nat.zero_le _, rfl, HW⟩
          case round =>
            obtain ⟨k, hk, rfl, HX⟩ := hrel
            clear HW
            have hbig := HN.out _ (List.getElem_mem hjL)
            obtain ⟨g, o, rfl, hcell, hroom⟩ := HX.out.2.at_ (List.getElem?_eq_getElem hjL)
            by_cases hkn : k < L[j].2.2.1
            · have t3 : (k : Int) < (L[j].2.2.1 : Int) := by omega
              have hbig2 : (L[j].2.2.1 : Int) ≤ 1000000 := by omega
              obtain ⟨g2, o2, ea, hB2, hg2, ⟨v0, v1, v2, k0, k1, k2⟩, f0, f1, f2⟩ := hroom.at_ hkn
              have FIN : Hid (Below w9.heap.size w9 (((wr.setCell ⟨g2, o2 + k * 3, none⟩ (.int .i64 (-1))).setCell ⟨g2, o2 + k * 3 + 1, none⟩ (.int .i64 0)).setCell ⟨g2, o2 + k * 3 + 2, none⟩ (.int .i64 0)) ∧ RoomT (((wr.setCell ⟨g2, o2 + k * 3, none⟩ (.int .i64 (-1))).setCell ⟨g2, o2 + k * 3 + 1, none⟩ (.int .i64 0)).setCell ⟨g2, o2 + k * 3 + 2, none⟩ (.int .i64 0)) w9.heap.size (.slice (some ⟨g, o, none⟩) n10 c10) L) := Lib.hid ⟨((HX.out.1.setCell (p := ⟨g2, _, none⟩) hB2 _).setCell (p := ⟨g2, _, none⟩) hB2 _).setCell (p := ⟨g2, _, none⟩) hB2 _, HX.out.2.set3 hg2 _ _ _⟩
              rw [ea] at hcell
              clear HX hroom hg2 HN
              go_wp2
              go_roundw
              case rel => exact ⟨k + 1, by omega, by go_num, FIN⟩
              case measure => simp [intOf]; omega
            · obtain rfl : k = L[j].2.2.1 := by omega
              have t3 : ¬ (L[j].2.2.1 : Int) < (L[j].2.2.1 : Int) := by omega
              clear hroom HN
              go_wp2
              go_roundw
              case rel => exact ⟨j + 1, by omega, by go_num, HX⟩
              case measure => simp [intOf]; omega
        · obtain rfl : j = n10 := by omega
          have t2 : ¬ (j : Int) < (j : Int) := by omega
          have Q0 : Hid (P2 W7 cp xp ((ms.take 0).foldl deedT TT) ((ms.take 0).foldl deedT TT) [] wr) := Lib.hid (P9.out.below HW.out.1)
          have AL := Lib.hid fun W (k : Nat) (h : P2 W7 cp xp ((ms.take k).foldl deedT TT) ((ms.take k).foldl deedT TT) [] W) => h.alikeB (by
            have := le_total (fold_le (ms.take k) TT 60 HLT.out)
            rw [List.length_take] at this
            omega)
          have AS : Hid (∀ W, P2 w s r TT TT [] W → Calls Try.prog 14 #[.pointer (some ⟨s, 0, none⟩), .pointer (some ⟨r, 0, none⟩)] W fun e V => e = .returned (.bool true) ∧ Below W.heap.size W V) := Lib.hid fun W h => h.alikeB (by
            have := le_total HLT.out
            omega)
          clear HW P9 HN
          generalize j = nj at *
          go_wp2_with (go_at_call 14; refine (AL.out _ 0 Q0.out).mono ?_; rintro e w11 ⟨rfl, b11⟩; have Q1 := Lib.hid (Q0.out.below b11); clear Q0 b11)
          go_loopw [13] (fun i wr => ∃ j : Nat, j ≤ ms.length ∧ i = .int .i64 j ∧ Hid (P2 W7 cp xp ((ms.take j).foldl deedT TT) ((ms.take j).foldl deedT TT) [] wr)) (fun i _ => ms.length - (intOf i).toNat)
          case atStart => exact ⟨0, Nat.zero_le _, rfl, Q1⟩
          case round =>
            obtain ⟨j, hj, rfl, HP⟩ := hrel
            clear Q1
            by_cases hjn : j < ms.length
            · have t5 : (j : Int) < (ms.length : Int) := by omega
              have hT := fold_take TT ms hjn
              have hb0 := H7.out.bel.trans (HP.out.bel.mono H7.out.bel.size)
              obtain ⟨g, o, rfl, _⟩ := RM.out wr hb0 j _ (List.getElem?_eq_getElem hjn)
              have RC : Hid (∀ W, Below w.heap.size w W → W.cell? ⟨g, o + j * 12, none⟩ = some (.int .i64 ms[j].k) ∧ W.cell? ⟨g, o + j * 12 + 1, none⟩ = some (.int .i64 ms[j].b.s) ∧ W.cell? ⟨g, o + j * 12 + 2, none⟩ = some (.int .i64 ms[j].b.i) ∧ W.cell? ⟨g, o + j * 12 + 3, none⟩ = some (.int .i64 ms[j].b.g) ∧ W.cell? ⟨g, o + j * 12 + 4, none⟩ = some (.int .i64 ms[j].b.m) ∧ W.cell? ⟨g, o + j * 12 + 5, none⟩ = some (.int .i64 ms[j].b.x) ∧ W.cell? ⟨g, o + j * 12 + 6, none⟩ = some (.int .i64 ms[j].b.y) ∧ W.cell? ⟨g, o + j * 12 + 7, none⟩ = some (.int .i64 ms[j].b.vx) ∧ W.cell? ⟨g, o + j * 12 + 8, none⟩ = some (.int .i64 ms[j].b.vy) ∧ W.cell? ⟨g, o + j * 12 + 9, none⟩ = some (.int .i64 ms[j].b.h) ∧ W.cell? ⟨g, o + j * 12 + 10, none⟩ = some (.int .i64 ms[j].b.p) ∧ W.cell? ⟨g, o + j * 12 + 11, none⟩ = some (.int .i64 ms[j].b.l)) := Lib.hid fun W hW => by
                obtain ⟨g', o', e, _, hc⟩ := RM.out W hW j _ (List.getElem?_eq_getElem hjn)
                cases e
                exact hc
              have hLe : Le ((ms.take j).foldl deedT TT) 120 := (fold_le (ms.take j) TT 60 HLT.out).mono (by rw [List.length_take]; omega)
              have SX := step_any HP.out ms[j] (FY.out _ (List.getElem_mem hjn)) hLe hLe (by decide) (by decide)
              rw [← hT, deedB_self] at SX
              replace SX := Lib.hid SX
              clear hT RM FY HP hLe AW AL AS
              simp only [Dd.val, Bn.val] at SX
              generalize ms[j].k = y at *
              generalize ms[j].b.s = y0 at *
              generalize ms[j].b.i = y1 at *
              generalize ms[j].b.g = y2 at *
              generalize ms[j].b.m = y3 at *
              generalize ms[j].b.x = y4 at *
              generalize ms[j].b.y = y5 at *
              generalize ms[j].b.vx = y6 at *
              generalize ms[j].b.vy = y7 at *
              generalize ms[j].b.h = y8 at *
              generalize ms[j].b.p = y9 at *
              generalize ms[j].b.l = y10 at *
              obtain ⟨k0, k1, k2, k3, k4, k5, k6, k7, k8, k9, k10, k11⟩ := RC.out _ hb0
              clear RC
              go_wp2_with (go_at_call 13; refine SX.out.mono ?_; rintro e w5 ⟨rfl, h5⟩; clear SX k0 k1 k2 k3 k4 k5 k6 k7 k8 k9 k10 k11)
              go_roundw
              case rel => exact ⟨j + 1, by omega, by go_num, Lib.hid h5⟩
              case measure => simp [intOf]; omega
            · obtain rfl : j = ms.length := by omega
              have t5 : ¬ (ms.length : Int) < (ms.length : Int) := by omega
              have S7 := H7.out.below HP.out.bel
              have bs7 := S7.bel
              clear RM FY
              go_wp2_with (first
                | (go_at_call 14; refine (AS.out _ S7).mono ?_; rintro e w12 ⟨rfl, b12⟩; clear AS; have h13 := HP.out.below b12; have bs8 := bs7.trans (b12.mono bs7.size); clear S7 b12 bs7)
                | (go_at_call 14; refine (AL.out _ _ h13).mono ?_; rintro e w13 ⟨rfl, b13⟩; clear AL; have bs9 := bs8.trans (b13.mono bs8.size); clear h13 b13 bs8)
                | (go_at_call 17; refine (AW.out _).mono ?_; rintro e w14 ⟨rfl, b14⟩; clear AW))
              go_ret
              exact ⟨rfl, bs9.trans (b14.mono bs9.size)⟩
end Go.Proofs.Yteohkbepefjjlaa
