/- The law IdsWorn, walked. -/
import Derived.Test.YtdanpdlbbgcidaaIdNext
import Derived.Test.YtdanpdlbbgcidaaIdOpen
import Derived.Test.YtdanpdlbbgcidaaIdWorn
import Derived.Deep.DeepCutAuto
namespace Go.Proofs.Ytdanpdlbbgcidaa
open Go.RowKit Ids
set_option linter.unusedVariables false

section
variable {w W W' : World} {d : Nat} {p : Pl} {K K' : St} {L : List (Nat × I3)}
theorem Hx.lapse (h : Hx w d p K L W) {n : Nat} (e : Ids.lapse K = (K', n)) :
    Calls Try.prog 19 #[.pointer (some ⟨d, 0, none⟩)] W fun e w' => e = .returned (.int .i64 (n : Nat)) ∧ Hx w d p K' L w' := by
  have := lapse_any h.pa
  rw [h.pd, e] at this
  exact this.mono fun e w' ⟨h1, h2, h3⟩ => ⟨h1, h.next h2 h3⟩
theorem Hx.head (h : Hx w d p K L W) (k : Int) {a : Nat} {b : Bool} {n : Nat} (e : Ids.head K k = (a, b, n)) :
    Calls Try.prog 22 #[.pointer (some ⟨d, 0, none⟩), .int .i64 k] W fun e w' => e = .returned (.tuple #[.int .i64 (a : Nat), .bool b, .int .i64 (n : Nat)]) ∧ Hx w d p K L w' := by
  have := head_any h.pa k
  rw [h.pd, e] at this
  exact this.mono fun e w' ⟨h1, h2⟩ => ⟨h1, h.below h2⟩
theorem Hx.list (h : Hx w d p K L W) : Calls Try.prog 21 #[.pointer (some ⟨d, 0, none⟩)] W fun e w' => (∃ A c, e = .returned (.slice A (Ids.list K).length c)) ∧ Hx w d p K L w' := by
  have := list_any h.pa
  rw [h.pd] at this
  refine this.mono ?_
  rintro e w' ⟨⟨v, rfl, ho⟩, hb⟩
  obtain ⟨A, c, rfl⟩ := ho.form
  exact ⟨⟨A, c, by rw [List.length_map]⟩, h.below hb⟩
theorem Hx.store2 {b : Nat} {x : I3} (h : Hx w d p K [(b, x)] W) (v : Int) : W.frozen? ⟨b, 2, none⟩ = false ∧ Hx w d p K [(b, (x.1, x.2.1, v))] (W.setCell ⟨b, 2, none⟩ (.int .i64 v)) := by
  obtain ⟨h1, h2⟩ := h.held (b, x) (by simp)
  have lo := h.pa.din
  have hl := h.lo
  refine ⟨(box3 h2).2.2.2, h.pa.set_out h1 _, h.pd, h.bel.setCell (show w.heap.size ≤ b by have : p.hi ≤ b := h1; omega) _, h.lo, fun y hy => ?_⟩
  obtain rfl : y = (b, (x.1, x.2.1, v)) := by simpa using hy
  refine ⟨h1, ?_⟩
  have := heap_set (W := W) h2 (.int .i64 v) (o := 2)
  rw [this]; rfl
theorem Hx.store22 {b c : Nat} {x y : I3} (h : Hx w d p K [(c, y), (b, x)] W) (hne : c ≠ b) (v : Int) : W.frozen? ⟨b, 2, none⟩ = false ∧ Hx w d p K [(c, y), (b, (x.1, x.2.1, v))] (W.setCell ⟨b, 2, none⟩ (.int .i64 v)) := by
  obtain ⟨h1, h2⟩ := h.held (b, x) (by simp)
  obtain ⟨h3, h4⟩ := h.held (c, y) (by simp)
  have lo := h.pa.din
  have hl := h.lo
  refine ⟨(box3 h2).2.2.2, h.pa.set_out h1 _, h.pd, h.bel.setCell (show w.heap.size ≤ b by have : p.hi ≤ b := h1; omega) _, h.lo, fun z hz => ?_⟩
  simp only [List.mem_cons, List.not_mem_nil, or_false] at hz
  rcases hz with rfl | rfl
  · exact ⟨h3, (heap_ne hne _).trans h4⟩
  · refine ⟨h1, ?_⟩
    have := heap_set (W := W) h2 (.int .i64 v) (o := 2)
    rw [this]; rfl
theorem Hx.sub (h : Hx w d p K L W) {L' : List (Nat × I3)} (hs : ∀ y ∈ L', y ∈ L) : Hx w d p K L' W := ⟨h.pa, h.pd, h.bel, h.lo, fun y hy => h.held y (hs y hy)⟩
end
def memInt (W : World) (a : Addr) : Int := match W.cell? a with | some (.int _ q) => q | _ => 0
theorem memInt_is {W : World} {a : Addr} {q : Int} (h : W.cell? a = some (.int .i64 q)) : memInt W a = q := by unfold memInt; rw [h]
theorem lap_vals {g : Nat} (h : g < MG) : ∃ n : Nat, lapse (Fr g) = (Wn MG [] MG, n) ∧ min ((1048575 : Int) - (g : Int)) 1 = (n : Int) ∧ n ≤ 1 := by
  unfold Fr
  unfold MG at h
  split
  · rename_i h1
    exact ⟨1, wn_lapse1 h1, by unfold MG at h1; omega, Nat.le_refl _⟩
  · rename_i h1
    exact ⟨0, wn_lapse0 _ _, by unfold MG at h1; omega, by omega⟩
set_option maxHeartbeats 16000000 in
set_option maxRecDepth 100000 in
theorem law_worn (w : World) (gen : Int) (hgen : -9223372036854775808 ≤ gen ∧ gen ≤ 9223372036854775807) (lapse : Bool) : Calls Try.prog 7 #[.int .i64 gen, .bool lapse] w fun e w' => e = .returned (.bool true) ∧ Below w.heap.size w w' := by
  obtain ⟨g0, hg0, hgb⟩ : ∃ g0 : Nat, (1048575 : Int) - gen % 3 = (g0 : Int) ∧ 1048573 ≤ g0 ∧ g0 ≤ 1048575 := by
    have h2 := Int.emod_lt_of_pos gen (show (0 : Int) < 3 by decide)
    have h3 := Int.emod_nonneg gen (show (3 : Int) ≠ 0 by decide)
    exact ⟨(1048575 - gen % 3).toNat, by omega, by omega, by omega⟩
  have hq : gen % 3 = 1048575 - (g0 : Int) := by omega
  have MD := mod_any gen 3
  rw [hq] at MD
  have MD := Lib.hid (fun W => MD W (by decide) (by decide))
  clear hg0 hq hgen
  have hlt : g0 < MG := by unfold MG; omega
  obtain ⟨nl, V5, hmin, hnl⟩ := lap_vals hlt
  obtain ⟨d, hd⟩ : ∃ d, d = w.heap.size := ⟨_, rfl⟩
  have N := hx_new w (n := 1) (m := 1) (by decide) (by decide) (by decide) (by decide)
  rw [← hd, wn_new] at N
  have N : Hid (Calls Try.prog 9 #[.int .i64 1, .int .i64 1] w fun e w' => e = .returned (.tuple #[.pointer (some ⟨d, 0, none⟩), .int .i64 0]) ∧ ∃ p, Hx w d p (Wn 0 [0] 0) [] w') := N
  clear hd
  have R1 := Lib.hid (fun (W : World) p (j : Nat) (hj : j < 131072) (h : Hx w d p (Wn 0 [0] (8 * j)) [] W) => by
    have := h.reserve 0 0 (wn_reserve (g := 0) (r := [0]) (show 8 * j < MG by unfold MG; omega))
    rw [show min (8 * j + 8) MG = 8 * (j + 1) by unfold MG; omega] at this
    exact this)
  have R2 := Lib.hid (fun (W : World) p (h : Hx w d p (Wn 0 [0] MG) [] W) => h.reserve 0 0 (wn_full 0 [0]))
  have T1 := Lib.hid (fun (W : World) p (h : Hx w d p (Wn 0 [0] MG) [] W) => h.take 0 0 ((1048576 : Nat) : Int) (wn_stale (g := 0) (b := MG) (x := 1048576) (Nat.le_refl _)))
  have T2 := Lib.hid (fun (W : World) p L (h : Hx w d p (Wn 0 [0] MG) L W) => h.take 0 0 (g0 : Int) (wn_take (g := 0) (b := MG) (x := g0) (Nat.zero_le _) hlt))
  have T3 := Lib.hid (fun (W : World) p L (h : Hx w d p (Wn g0 [] MG) L W) => h.take 0 0 (g0 : Int) (wn_state g0 MG g0))
  have F1 := Lib.hid (fun (W : World) p L (h : Hx w d p (Wn g0 [] MG) L W) => h.free 0 0 (g0 : Int) (wn_free hlt))
  have LP := Lib.hid (fun (W : World) p L (h : Hx w d p (Fr g0) L W) => h.lapse V5)
  have I1 := Lib.hid (fun (W : World) p L (g : Nat) (hg : g + 1 < MG) (h : Hx w d p (Fr g) L W) => h.issue 0 (wn_issue hg))
  have F2 := Lib.hid (fun (W : World) p L (g : Nat) (hg : g < MG) (h : Hx w d p (Wn g [] MG) L W) => h.free 0 0 (g : Int) (wn_free hg))
  have H1 := Lib.hid (fun (W : World) p L (h : Hx w d p (Wn MG [] MG) L W) => h.head 0 (wn_head MG MG))
  have I2 := Lib.hid (fun (W : World) p L (h : Hx w d p (Wn MG [] MG) L W) => h.issue 0 (wn_none MG MG))
  have LS := Lib.hid (fun (W : World) p L (h : Hx w d p (Wn MG [] MG) L W) => by have := h.list; rw [wn_list] at this; exact this)
  have L0 := Lib.hid (fun (W : World) p L (h : Hx w d p (Wn MG [] MG) L W) => h.lapse (wn_lapse0 MG MG))
  have E8 : Hid (8 * 131072 = MG) := Lib.hid rfl
  have EF : Hid (Fr 1048575 = Wn MG [] MG) := Lib.hid (by unfold Fr; rw [if_neg (by unfold MG; omega)])
  have hgi : (1048573 : Int) ≤ (g0 : Int) ∧ (g0 : Int) ≤ 1048575 := by omega
  obtain ⟨hgi1, hgi2⟩ := hgi
  have hs1 : (1048575 : Int) - (1048575 - (g0 : Int)) = (g0 : Int) := by omega
  clear V5
  cases lapse with
  | true =>
    go_enter Try.func7, Try.ntmps7
    go_wp2_with (go_at_call 9; refine N.out.mono ?_; rintro e w1 ⟨rfl, p, h1⟩; have h1 := Lib.hid h1; clear N)
    go_loopw [7] (fun u wr => ∃ j : Nat, j ≤ 131072 ∧ u = .int .i64 j ∧ Hid (Hx w d p (Wn 0 [0] (8 * j)) [] wr)) (fun u _ => 131072 - (intOf u).toNat)
    case atStart => exact ⟨0, Nat.zero_le _, rfl, h1⟩
    case round =>
      obtain ⟨j, hj, rfl, h2⟩ := hrel
      clear h1
      by_cases hjl : j < 131072
      · have t1 : (j : Int) < 1048576 := by omega
        have R1 := Lib.hid (R1.out _ p j hjl h2.out)
        clear R2 T1 T2 T3 F1 LP I1 F2 H1 I2 LS L0 h2 MD
        go_wp2_with (go_at_call 16; refine R1.out.mono ?_; rintro e w2 ⟨rfl, h3⟩; have h3 := Lib.hid h3)
        go_roundw
        case rel => exact ⟨j + 1, by omega, by go_num, h3⟩
        case measure => simp [intOf]; omega
      · obtain rfl : j = 131072 := by omega
        rw [E8.out] at h2
        clear R1 hjl
        go_wp2_with (first
          | (go_at_call 16; refine (R2.out _ p h2.out).mono ?_; rintro e w2 ⟨rfl, h3⟩; clear h2)
          | (go_at_call 16; refine (R2.out _ p h3).mono ?_; rintro e w3 ⟨rfl, h4⟩; clear h3 R2)
          | (go_at_call 17; refine (T1.out _ p h4).mono ?_; rintro e w4 ⟨rfl, h5⟩; clear h4 T1)
          | (go_at_call 14; refine (MD.out _).mono ?_; rintro e w' ⟨rfl, rfl⟩; have h6 := h5.box (0, 0, (g0 : Int)); clear h5; obtain ⟨c0, c1, c2⟩ := h6.get (b := w4.heap.size) (x := (0, 0, (g0 : Int))) (by simp))
          | (go_at_call 17; refine (T2.out _ p _ h6).mono ?_; rintro e w5 ⟨rfl, h7⟩; clear h6 T2 c0 c1 c2; obtain ⟨c0, c1, c2⟩ := h7.get (b := w4.heap.size) (x := (0, 0, (g0 : Int))) (by simp))
          | (go_at_call 17; refine (T3.out _ p _ h7).mono ?_; rintro e w6 ⟨rfl, h8⟩; clear h7 T3 c0 c1 c2; obtain ⟨c0, c1, c2⟩ := h8.get (b := w4.heap.size) (x := (0, 0, (g0 : Int))) (by simp))
          | (go_at_call 18; refine (F1.out _ p _ h8).mono ?_; rintro e w7 ⟨rfl, h9⟩; clear h8 F1 c0 c1 c2)
          | (go_at_call 19; refine (LP.out _ p _ h9).mono ?_; rintro e w8 ⟨rfl, h10⟩; clear h9 LP)
          | (go_at_call 14; refine (MD.out _).mono ?_; rintro e w' ⟨rfl, rfl⟩; clear MD))
        go_loopw [] (fun wr => Hid (Hx w d p (Wn MG [] MG) [(w4.heap.size, (0, 0, (g0 : Int)))] wr)) (fun _ => 0)
        case atStart => exact Lib.hid h10
        case round =>
          have h20 := hrel.out
          clear hrel h10
          go_wp2_with (first
            | (go_at_call 22; refine (H1.out _ p _ h20).mono ?_; rintro e w21 ⟨rfl, h21⟩; clear h20 H1)
            | (go_at_call 23; refine (I2.out _ p _ h21).mono ?_; rintro e w22 ⟨rfl, h22⟩; have h23 := h22.below (bel1 w22 (.cells #[.int .i64 0, .int .i64 0, .int .i64 0] 33)); clear h21 h22 I2)
            | (go_at_call 21; refine (LS.out _ p _ h23).mono ?_; rintro e w24 ⟨⟨A9, c9, rfl⟩, h24⟩; clear h23 LS)
            | (go_at_call 19; refine (L0.out _ p _ h24).mono ?_; rintro e w25 ⟨rfl, h25⟩; clear h24 L0)
            | (go_at_call 11; refine (awake_any _).mono ?_; rintro e w26 ⟨rfl, hb26⟩; have b26 := (h25.below hb26).bel; clear h25 hb26))
          go_ret
          exact ⟨rfl, b26⟩
  | false =>
    go_enter Try.func7, Try.ntmps7
    go_wp2_with (go_at_call 9; refine N.out.mono ?_; rintro e w1 ⟨rfl, p, h1⟩; have h1 := Lib.hid h1; clear N)
    go_loopw [7] (fun u wr => ∃ j : Nat, j ≤ 131072 ∧ u = .int .i64 j ∧ Hid (Hx w d p (Wn 0 [0] (8 * j)) [] wr)) (fun u _ => 131072 - (intOf u).toNat)
    case atStart => exact ⟨0, Nat.zero_le _, rfl, h1⟩
    case round =>
      obtain ⟨j, hj, rfl, h2⟩ := hrel
      clear h1
      by_cases hjl : j < 131072
      · have t1 : (j : Int) < 1048576 := by omega
        have R1 := Lib.hid (R1.out _ p j hjl h2.out)
        clear R2 T1 T2 T3 F1 LP I1 F2 H1 I2 LS L0 h2 MD
        go_wp2_with (go_at_call 16; refine R1.out.mono ?_; rintro e w2 ⟨rfl, h3⟩; have h3 := Lib.hid h3)
        go_roundw
        case rel => exact ⟨j + 1, by omega, by go_num, h3⟩
        case measure => simp [intOf]; omega
      · obtain rfl : j = 131072 := by omega
        rw [E8.out] at h2
        clear R1 hjl
        go_wp2_with (first
          | (go_at_call 16; refine (R2.out _ p h2.out).mono ?_; rintro e w2 ⟨rfl, h3⟩; clear h2)
          | (go_at_call 16; refine (R2.out _ p h3).mono ?_; rintro e w3 ⟨rfl, h4⟩; clear h3 R2)
          | (go_at_call 17; refine (T1.out _ p h4).mono ?_; rintro e w4 ⟨rfl, h5⟩; clear h4 T1)
          | (go_at_call 14; refine (MD.out _).mono ?_; rintro e w' ⟨rfl, rfl⟩; have h6 := h5.box (0, 0, (g0 : Int)); clear h5; obtain ⟨c0, c1, c2⟩ := h6.get (b := w4.heap.size) (x := (0, 0, (g0 : Int))) (by simp))
          | (go_at_call 17; refine (T2.out _ p _ h6).mono ?_; rintro e w5 ⟨rfl, h7⟩; clear h6 T2 c0 c1 c2; obtain ⟨c0, c1, c2⟩ := h7.get (b := w4.heap.size) (x := (0, 0, (g0 : Int))) (by simp))
          | (go_at_call 17; refine (T3.out _ p _ h7).mono ?_; rintro e w6 ⟨rfl, h8⟩; clear h7 T3 c0 c1 c2; obtain ⟨c0, c1, c2⟩ := h8.get (b := w4.heap.size) (x := (0, 0, (g0 : Int))) (by simp))
          | (go_at_call 18; refine (F1.out _ p _ h8).mono ?_; rintro e w7 ⟨rfl, h9⟩; clear h8 F1 c0 c1 c2))
        go_loopw [] (fun wr => ∃ g : Nat, g0 ≤ g ∧ g ≤ 1048575 ∧ Hid (Hx w d p (Fr g) [(w4.heap.size, (0, 0, (g : Int)))] wr)) (fun wr => (1048575 - memInt wr ⟨w4.heap.size, 2, none⟩).toNat)
        case atStart => exact ⟨g0, Nat.le_refl _, hgb.2, Lib.hid h9⟩
        case round =>
          obtain ⟨g, hg1, hg2, h10⟩ := hrel
          clear h9
          obtain ⟨c0, c1, c2⟩ := h10.out.get (b := w4.heap.size) (x := (0, 0, (g : Int))) (by simp)
          have hlt4 : w4.heap.size < wr.heap.size := heap_lt (h10.out.held (w4.heap.size, (0, 0, (g : Int))) (by simp)).2
          have hmi := memInt_is c2
          by_cases hgl : g < 1048575
          · have t1 : (g : Int) < 1048575 := by omega
            have hg3 : g + 1 < MG := by unfold MG; omega
            have I1 := Lib.hid (I1.out _ p _ g hg3 h10.out)
            have SX : Hid (∀ W9, Hx w d p (Wn (g + 1) [] MG) [(w4.heap.size, (0, 0, (g : Int)))] W9 → ∃ W10, W10 = W9.alloc (.cells #[.int .i64 0, .int .i64 0, .int .i64 ((g + 1 : Nat) : Int)] 33) ∧ W10.cell? ⟨w4.heap.size, 2, none⟩ = some (.int .i64 (g : Int)) ∧ W10.frozen? ⟨w4.heap.size, 2, none⟩ = false ∧
                Hid (Hx w d p (Wn (g + 1) [] MG) [(W9.heap.size, (0, 0, ((g + 1 : Nat) : Int))), (w4.heap.size, (0, 0, ((g + 1 : Nat) : Int)))] (W10.setCell ⟨w4.heap.size, 2, none⟩ (.int .i64 ((g + 1 : Nat) : Int))))) := Lib.hid fun W9 h9 => by
              have h10 := h9.box (0, 0, ((g + 1 : Nat) : Int))
              have hb := (h9.held (w4.heap.size, (0, 0, (g : Int))) (by simp)).2
              obtain ⟨f, h11⟩ := h10.store22 (by have := heap_lt hb; omega) ((g + 1 : Nat) : Int)
              exact ⟨_, rfl, (h10.get (b := w4.heap.size) (x := (0, 0, (g : Int))) (by simp)).2.2, f, Lib.hid h11⟩
            have F2 := Lib.hid (fun W L => F2.out W p L (g + 1) hg3)
            have csum : (g : Int) + 1 = ((g + 1 : Nat) : Int) := by omega
            have hbd : ((g + 1 : Nat) : Int) ≤ 1048575 := by omega
            have cl : Hid (∀ W, Hx w d p (Fr (g + 1)) [(w4.heap.size, (0, 0, ((g + 1 : Nat) : Int)))] W → (1048575 - memInt W ⟨w4.heap.size, 2, none⟩).toNat < (1048575 - memInt wr ⟨w4.heap.size, 2, none⟩).toNat) := Lib.hid fun W hW => by
              rw [memInt_is (hW.get (b := w4.heap.size) (x := (0, 0, ((g + 1 : Nat) : Int))) (by simp)).2.2, hmi]
              show (1048575 - ((g + 1 : Nat) : Int)).toNat < (1048575 - (g : Int)).toNat
              omega
            have hgg : Hid (g0 ≤ g + 1 ∧ g + 1 ≤ 1048575) := Lib.hid ⟨by omega, by omega⟩
            clear MD LP H1 I2 LS L0 EF E8 hmi hgl hg3 hg1 hg2 hs1 hmin hnl hgi1 hgi2 hlt hlt4 c0 c1
            generalize g + 1 = g1 at *
            go_upto_region 17 with (go_at_call 23; refine I1.out.mono ?_; rintro e w9 ⟨rfl, h11⟩; obtain ⟨w10, hw10, x0, f0, h12⟩ := SX.out _ h11; subst hw10; clear c2 h11 h10)
            clear x0 f0 I1 SX
            generalize ((w9.alloc (.cells #[.int .i64 0, .int .i64 0, .int .i64 (g1 : Int)] 33)).setCell ⟨w4.heap.size, 2, none⟩ (.int .i64 (g1 : Int))) = w12 at *
            obtain ⟨x0, x1, x2⟩ := h12.out.get (b := w9.heap.size) (x := (0, 0, (g1 : Int))) (by simp)
            obtain ⟨y0, y1, y2⟩ := h12.out.get (b := w4.heap.size) (x := (0, 0, (g1 : Int))) (by simp)
            clear csum
            go_wp2_with (go_at_call 18; refine (F2.out _ _ h12.out).mono ?_; rintro e w13 ⟨rfl, h13⟩; clear x0 x1 x2 y0 y1 y2 h12)
            have h14 := h13.sub (L' := [(w4.heap.size, (0, 0, (g1 : Int)))]) (by simp)
            go_roundw
            case rel => exact ⟨g1, hgg.out.1, hgg.out.2, Lib.hid h14⟩
            case measure => exact cl.out _ h14
          · obtain rfl : g = 1048575 := by omega
            have h20 := h10.out
            rw [EF.out] at h20
            have t1 : ¬ ((1048575 : Nat) : Int) < 1048575 := by omega
            clear I1 F2 h10 hmi
            go_wp2_with (first
              | (go_at_call 22; refine (H1.out _ p _ h20).mono ?_; rintro e w21 ⟨rfl, h21⟩; clear h20 H1)
              | (go_at_call 23; refine (I2.out _ p _ h21).mono ?_; rintro e w22 ⟨rfl, h22⟩; have h23 := h22.below (bel1 w22 (.cells #[.int .i64 0, .int .i64 0, .int .i64 0] 33)); clear h21 h22 I2)
              | (go_at_call 21; refine (LS.out _ p _ h23).mono ?_; rintro e w24 ⟨⟨A9, c9, rfl⟩, h24⟩; clear h23 LS)
              | (go_at_call 19; refine (L0.out _ p _ h24).mono ?_; rintro e w25 ⟨rfl, h25⟩; clear h24 L0)
              | (go_at_call 11; refine (awake_any _).mono ?_; rintro e w26 ⟨rfl, hb26⟩; have b26 := (h25.below hb26).bel; clear h25 hb26))
            go_ret
            exact ⟨rfl, b26⟩
end Go.Proofs.Ytdanpdlbbgcidaa
