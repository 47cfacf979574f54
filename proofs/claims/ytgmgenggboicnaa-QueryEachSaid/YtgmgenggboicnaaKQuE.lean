/- QuMade, QuAwake, in one text. -/
import Derived.Test.YtgmgenggboicnaaKLaw
import Derived.Test.YtgmgenggboicnaaKQuC
import Derived.Test.YtgmgenggboicnaaKQuA
import Derived.Deep.DeepCutAuto
namespace Go.Proofs.Ytgmgenggboicnaa
open Go.RowKit Pz Ar
set_option linter.unusedVariables false
set_option linter.unusedSimpArgs false

theorem Ar.put_ok {t : Tb} {b : Bn} (h : put t b = (put0 t b, 0)) : find t b.id = none := by
  unfold put at h
  split at h
  · split at h
    · injection h with _ h2; cases h2
    · rename_i hf
      cases hx : find t b.id with
      | none => rfl
      | some p => rw [hx] at hf; simp at hf
  · injection h with _ h2; cases h2
theorem Ar.ok_snoc {P : List Bn} {x : Bn} (h : Ok P) (hm : may x = true) (hf : find (addAll P) x.id = none) : Ok (P ++ [x]) := by
  have hne : ∀ b ∈ P, b.id ≠ x.id := fun b hb e => by
    have hb' : b ∈ addAll P b.m.toNat := List.mem_filter.2 ⟨hb, by simp⟩
    have := may_mask (h.may b hb)
    exact find_none hf b.m.toNat (by omega) b hb' e
  refine ⟨fun b hb => ?_, ?_⟩
  · rcases List.mem_append.1 hb with hb | hb
    · exact h.may b hb
    · rw [List.mem_singleton.1 hb]; exact hm
  · rw [List.map_append, List.nodup_append]
    refine ⟨h.apart, by simp, fun a ha b hb => ?_⟩
    obtain ⟨y, hy, rfl⟩ := List.mem_map.1 ha
    rw [List.map_singleton, List.mem_singleton] at hb
    rw [hb]
    exact hne y hy
theorem Ar.addAll_good {P : List Bn} (h : Ok P) : Good (addAll P) := by
  have key : ∀ n, n ≤ P.length → Good (addAll (P.take n)) := fun n => by
    induction n with
    | zero => intro _; rw [List.take_zero, addAll_nil]; exact good_none
    | succ n ih =>
      intro hn
      have e1 : P.take (n + 1) = P.take n ++ [P[n]] := by rw [List.take_add_one, List.getElem?_eq_getElem (by omega)]; rfl
      have hok := h.pre (List.take_prefix (n + 1) P)
      rw [e1] at hok ⊢
      rw [addAll_snoc]
      exact put_good (ih (by omega)) (hok.may _ (List.mem_append.2 (.inr (List.mem_singleton.2 rfl)))) (addAll_find hok.new)
  have := key P.length (Nat.le_refl _)
  rwa [List.take_length] at this
/-- the store has just those that were put -/
theorem Ar.all_addAll {P : List Bn} (h : Ok P) (x : Bn) : x ∈ all (addAll P) ↔ x ∈ P := by
  constructor
  · intro hx
    obtain ⟨m, i, _, hi⟩ := all_mem hx
    exact (addAll_mem (List.mem_of_getElem? hi)).1
  · intro hx
    have hm := may_mask (h.may x hx)
    exact mem_all (m := x.m.toNat) (by omega) (List.mem_filter.2 ⟨hx, by simp⟩)
def Ar.putL (P : List Bn) (x : Bn) : List Bn := if (put (addAll P) x).2 = 0 then P ++ [x] else P
/-- those of a list that are put, in order -/
def Ar.puts (l : List Bn) : List Bn := l.foldl putL []
theorem Ar.puts_take {l : List Bn} {j : Nat} {x : Bn} (hx : l[j]? = some x) : puts (l.take (j + 1)) = putL (puts (l.take j)) x := by
  have e : l.take (j + 1) = l.take j ++ [x] := by rw [List.take_add_one, hx]; rfl
  unfold puts
  rw [e, List.foldl_append]
  rfl
set_option maxHeartbeats 16000000 in
set_option maxRecDepth 100000 in
theorem qmade_any {w : World} {A : Option Addr} {c : Nat} {l : List Bn} (R : RdB w w.heap.size A l) (hc : l.length ≤ 140737488351232) :
    Calls Try.prog 31 #[.slice A l.length c] w fun e W => ∃ (P : List Bn) (A' : Option Addr) (c' : Nat), e = .returned (.tuple #[.pointer (some ⟨w.heap.size, 0, none⟩), .slice A' P.length c']) ∧ P = puts (l.take 60) ∧ P.length ≤ 60 ∧ Ok P ∧ P1R w w.heap.size (addAll P) (.slice A' P.length c') P W := by
  have N := Lib.hid (p1_new w)
  obtain ⟨s, hs⟩ : ∃ s, s = w.heap.size := ⟨_, rfl⟩
  have RX := Lib.hid fun W (hW : Below w.heap.size w W) => R.below hW
  rw [← hs] at N ⊢
  clear hs R
  go_enter Try.func31, Try.ntmps31
  go_wp2_with (go_at_call 43; refine N.out.mono ?_; rintro e w1 ⟨rfl, h1⟩; have H0 : Hid (P1R w s (addAll []) (.slice none 0 0) [] w1) := Lib.hid h1.row0; clear N h1)
  go_loopw [5, 6] (fun u i wr => ∃ (j : Nat) (P : List Bn), j ≤ l.length ∧ j ≤ 60 ∧ i = .int .i64 j ∧ P.length ≤ j ∧ Hid (P1R w s (addAll P) u P wr) ∧ Hid (Ok P ∧ P = puts (l.take j))) (fun u i _ => l.length - (intOf i).toNat)
  case atStart => exact ⟨0, [], Nat.zero_le _, Nat.zero_le _, rfl, Nat.le_refl _, H0, Lib.hid ⟨⟨fun b hb => (by cases hb), (by simp)⟩, rfl⟩⟩
  case round =>
    obtain ⟨j, P, hj, hj6, rfl, hPj, HP, HM⟩ := hrel
    clear H0
    by_cases hjn : j < l.length
    · have t1 : decide ((j : Int) < (l.length : Int)) = true := decide_eq_true (by omega)
      have t1' : (j : Int) < (l.length : Int) := by omega
      have t1'' : decide (j < l.length) = true := decide_eq_true hjn
      by_cases hj60 : j < 60
      · have t2 : decide ((j : Int) < 60) = true := decide_eq_true (by omega)
        have t2' : decide (j < 60) = true := decide_eq_true hj60
        have t2'' : (j : Int) < 60 := by omega
        obtain ⟨x, hx⟩ : ∃ x, l[j]? = some x := ⟨_, List.getElem?_eq_getElem hjn⟩
        obtain ⟨g, o, rfl, _⟩ := RX.out wr HP.out.1 j _ hx
        have RC : Hid (∀ W, Below w.heap.size w W → W.cell? ⟨g, o + j * 11, none⟩ = some (.int .i64 x.s) ∧ W.cell? ⟨g, o + j * 11 + 1, none⟩ = some (.int .i64 x.i) ∧ W.cell? ⟨g, o + j * 11 + 2, none⟩ = some (.int .i64 x.g) ∧ W.cell? ⟨g, o + j * 11 + 3, none⟩ = some (.int .i64 x.m) ∧ W.cell? ⟨g, o + j * 11 + 4, none⟩ = some (.int .i64 x.x) ∧ W.cell? ⟨g, o + j * 11 + 5, none⟩ = some (.int .i64 x.y) ∧ W.cell? ⟨g, o + j * 11 + 6, none⟩ = some (.int .i64 x.vx) ∧ W.cell? ⟨g, o + j * 11 + 7, none⟩ = some (.int .i64 x.vy) ∧ W.cell? ⟨g, o + j * 11 + 8, none⟩ = some (.int .i64 x.h) ∧ W.cell? ⟨g, o + j * 11 + 9, none⟩ = some (.int .i64 x.p) ∧ W.cell? ⟨g, o + j * 11 + 10, none⟩ = some (.int .i64 x.l)) := Lib.hid fun W hW => by
          obtain ⟨g', o', e, _, hc⟩ := RX.out W hW j _ hx
          cases e
          exact hc
        have hLe : Le (addAll P) 60 := fun m => Nat.le_trans (addAll_len P m) (by omega)
        have hsn := addAll_snoc P x
        have hb0 := Lib.hid HP.out.1
        rcases put_cases (addAll P) x with ⟨e, hmay⟩ | ⟨n, hne, e⟩
        · have HM2 : Hid (Ok (P ++ [x]) ∧ P ++ [x] = puts (l.take (j + 1))) := Lib.hid ⟨ok_snoc HM.out.1 hmay (put_ok e), by rw [puts_take hx, ← HM.out.2]; unfold putL; rw [e]; rfl⟩
          rw [← hsn] at e
          have SX := Lib.hid (HP.out.put x hLe (by decide) e)
          have AP : Hid (∀ W v, P1R w s (addAll (P ++ [x])) v P W → ∃ A1 n1 c1, v = .slice A1 n1 c1 ∧ ∃ A' n' c' V, (Builtin.append_ #[42, 42] 42 #[v, .slice (some ⟨W.heap.size, 0, none⟩) 1 1]).run Try.prog (W.alloc (.cells #[.int .i64 x.s, .int .i64 x.i, .int .i64 x.g, .int .i64 x.m, .int .i64 x.x, .int .i64 x.y, .int .i64 x.vx, .int .i64 x.vy, .int .i64 x.h, .int .i64 x.p, .int .i64 x.l] 33)) = .ok (.slice A' n' c') V ∧ Hid (P1R w s (addAll (P ++ [x])) (.slice A' n' c') (P ++ [x]) V)) := Lib.hid fun W v h => by
            obtain ⟨A', c', V, hr, h2⟩ := h.app x (by omega) 42
            obtain ⟨A1, c1, e1⟩ := h.own.form
            exact ⟨A1, _, c1, e1, A', _, c', V, hr, Lib.hid h2⟩
          have hPl : (P ++ [x]).length ≤ j + 1 := by rw [List.length_append]; simp; omega
          clear hsn e hmay hLe RX HP HM hx
          generalize P ++ [x] = P2 at *
          obtain ⟨xs, xi, xg, xm, xx, xY, xvx, xvy, xh, xp, xl⟩ := x
          simp only [Bn.val] at *
          obtain ⟨k0, k1, k2, k3, k4, k5, k6, k7, k8, k9, k10⟩ := RC.out _ hb0.out
          go_wp2_with (first
            | (go_at_call 44; refine SX.out.mono ?_; rintro e w5 ⟨rfl, h5⟩; clear SX k0 k1 k2 k3 k4 k5 k6 k7 k8 k9 k10; obtain ⟨k0, k1, k2, k3, k4, k5, k6, k7, k8, k9, k10⟩ := RC.out _ h5.1; obtain ⟨A1, n1, c1, rfl, A', n', c', V, hr, FIN⟩ := AP.out _ _ h5; have HR := Lib.hid hr; clear hr AP h5)
            | (at_builtin; refine wpList_append _ rfl (.tmp 25) (.tmp 30) _ _ rfl _ _ rfl rfl _ _ HR.out ?_))
          go_roundw
          case rel => exact ⟨j + 1, P2, by omega, by omega, by go_num, hPl, FIN, HM2⟩
          case measure => simp [intOf]; omega
        · have SX := Lib.hid (HP.out.put x hLe (by decide) e)
          have HM2 : Hid (Ok P ∧ P = puts (l.take (j + 1))) := Lib.hid ⟨HM.out.1, by rw [puts_take hx, ← HM.out.2]; unfold putL; rw [e]; exact (if_neg hne).symm⟩
          have d1 : decide (n = 0) = false := decide_eq_false hne
          have d2 : (n == 0) = false := by rw [beq_eq_false_iff_ne]; exact hne
          clear hsn e hne hLe RX HP hx
          obtain ⟨xs, xi, xg, xm, xx, xY, xvx, xvy, xh, xp, xl⟩ := x
          simp only [Bn.val] at *
          obtain ⟨k0, k1, k2, k3, k4, k5, k6, k7, k8, k9, k10⟩ := RC.out _ hb0.out
          go_wp2_with (go_at_call 44; refine SX.out.mono ?_; rintro e w5 ⟨rfl, h5⟩; clear SX k0 k1 k2 k3 k4 k5 k6 k7 k8 k9 k10)
          go_roundw
          case rel => exact ⟨j + 1, P, by omega, by omega, by go_num, by omega, Lib.hid h5, HM2⟩
          case measure => simp [intOf]; omega
      · have t2 : decide ((j : Int) < 60) = false := decide_eq_false (by omega)
        have t2' : decide (j < 60) = false := decide_eq_false hj60
        obtain ⟨Ap, cp, rfl⟩ := HP.out.own.form
        clear RX
        go_wp2
        exact bodyPost_ret (v := .tuple #[.pointer (some ⟨s, 0, none⟩), .slice Ap P.length cp]) (by simp [results, Try.results31, go_sem]) rfl ⟨P, Ap, cp, rfl, by rw [show 60 = j by omega]; exact HM.out.2, by omega, HM.out.1, HP.out⟩
    · obtain rfl : j = l.length := by omega
      have t1 : decide ((l.length : Int) < (l.length : Int)) = false := decide_eq_false (by omega)
      obtain ⟨Ap, cp, rfl⟩ := HP.out.own.form
      clear RX
      go_wp2
      exact bodyPost_ret (v := .tuple #[.pointer (some ⟨s, 0, none⟩), .slice Ap P.length cp]) (by simp [results, Try.results31, go_sem]) rfl ⟨P, Ap, cp, rfl, by rw [List.take_of_length_le hj6, HM.out.2, List.take_length], by omega, HM.out.1, HP.out⟩
end Go.Proofs.Ytgmgenggboicnaa
namespace Go.Proofs.Ytgmgenggboicnaa
open Go.RowKit Go.Shelf Pz Ar Qu
set_option linter.unusedVariables false
set_option linter.unusedSimpArgs false

namespace Qu
abbrev e1 : Bn := ⟨0, 1, 0, 1, 3, 0, 0, 0, 0, 0, 0⟩
abbrev e5 : Bn := ⟨0, 0, 0, 5, 0, 0, 0, 0, 1, 0, 0⟩
abbrev two : List Bn := [e1, e5]
theorem v_puts : puts (two.take 60) = two := by rfl
theorem v_masks : masks 5 26 32 = [5] := by rfl
theorem v_total : total (addAll two) = 2 := by rfl
theorem v_ids : (told 1 0 yes (all (addAll two))).map Bn.id = [(0, 0, 0), (0, 1, 0)] := by rfl
theorem v_near : (nears 1 0 2 0 2 (all (addAll two))).map Bn.id = [(0, 1, 0), (0, 0, 0)] := by rfl
theorem v_in : (told 0 0 (fun x => Rc.hasR 1 0 9 9 x.x x.y) (all (addAll two))).map Bn.id = [(0, 1, 0)] := by rfl
end Qu
abbrev TwoRow : Array Value := #[.int .i64 0, .int .i64 1, .int .i64 0, .int .i64 1, .int .i64 3, .int .i64 0, .int .i64 0, .int .i64 0, .int .i64 0, .int .i64 0, .int .i64 0, .int .i64 0, .int .i64 0, .int .i64 0, .int .i64 5, .int .i64 0, .int .i64 0, .int .i64 0, .int .i64 0, .int .i64 1, .int .i64 0, .int .i64 0]
theorem reads_two (W : World) : RdB (W.alloc (.cells TwoRow BTY)) (W.alloc (.cells TwoRow BTY)).heap.size (some ⟨W.heap.size, 0, none⟩) two := fun j x hx => by
  have key : ∀ o, (W.alloc (.cells TwoRow BTY)).cell? ⟨W.heap.size, o, none⟩ = TwoRow[o]? := fun o => cellAt (at1 W _) o
  have hlt : W.heap.size < (W.alloc (.cells TwoRow BTY)).heap.size := by simp
  match j, hx with
  | 0, hx =>
    simp only [List.getElem?_cons_zero, Option.some.injEq] at hx
    subst hx
    exact ⟨_, _, rfl, hlt, ⟨(key _).trans rfl, (key _).trans rfl, (key _).trans rfl, (key _).trans rfl, (key _).trans rfl, (key _).trans rfl, (key _).trans rfl, (key _).trans rfl, (key _).trans rfl, (key _).trans rfl, (key _).trans rfl⟩⟩
  | 1, hx =>
    simp only [List.getElem?_cons_succ, List.getElem?_cons_zero, Option.some.injEq] at hx
    subst hx
    exact ⟨_, _, rfl, hlt, ⟨(key _).trans rfl, (key _).trans rfl, (key _).trans rfl, (key _).trans rfl, (key _).trans rfl, (key _).trans rfl, (key _).trans rfl, (key _).trans rfl, (key _).trans rfl, (key _).trans rfl, (key _).trans rfl⟩⟩
  | n + 2, hx => simp at hx
def TwoP : Og.Ph := fun v _ => ∃ A c, v = .slice A 2 c
theorem twoP_lasts : Og.Lasts grows TwoP := fun _ _ _ h _ => h
theorem twoP_noBool : Og.NoBool TwoP := fun _ _ ⟨_, _, h⟩ => by cases h
set_option maxHeartbeats 16000000 in
set_option maxRecDepth 100000 in
theorem qawake_any (w : World) : Calls Try.prog 30 #[] w fun e w' => e = .returned (.bool true) ∧ Below w.heap.size w w' := by
  obtain ⟨L, hL⟩ : ∃ L, all (addAll two) = L := ⟨_, rfl⟩
  have i1 := v_ids
  have i2 := v_near
  have i3 := v_in
  rw [hL] at i1 i2 i3
  have BE := bel2 w (.cells #[.int .i64 0, .int .i64 1, .int .i64 0, .int .i64 1, .int .i64 3, .int .i64 0, .int .i64 0, .int .i64 0, .int .i64 0, .int .i64 0, .int .i64 0] BTY) (.cells TwoRow BTY)
  have T1 := at1 w (.cells #[.int .i64 0, .int .i64 1, .int .i64 0, .int .i64 1, .int .i64 3, .int .i64 0, .int .i64 0, .int .i64 0, .int .i64 0, .int .i64 0, .int .i64 0] BTY)
  have MD : Hid (Calls Try.prog 31 #[.slice (some ⟨w.heap.size + 1, 0, none⟩) 2 2] ((w.alloc (.cells #[.int .i64 0, .int .i64 1, .int .i64 0, .int .i64 1, .int .i64 3, .int .i64 0, .int .i64 0, .int .i64 0, .int .i64 0, .int .i64 0, .int .i64 0] BTY)).alloc (.cells TwoRow BTY)) fun e W => ∃ (s : Nat) (A' : Option Addr) (c' : Nat), e = .returned (.tuple #[.pointer (some ⟨s, 0, none⟩), .slice A' 2 c']) ∧ (∀ V, Below W.heap.size W V → Src (.pointer (some ⟨s, 0, none⟩)) L V) ∧ Below ((w.alloc (.cells #[.int .i64 0, .int .i64 1, .int .i64 0, .int .i64 1, .int .i64 3, .int .i64 0, .int .i64 0, .int .i64 0, .int .i64 0, .int .i64 0, .int .i64 0] BTY)).alloc (.cells TwoRow BTY)).heap.size ((w.alloc (.cells #[.int .i64 0, .int .i64 1, .int .i64 0, .int .i64 1, .int .i64 3, .int .i64 0, .int .i64 0, .int .i64 0, .int .i64 0, .int .i64 0, .int .i64 0] BTY)).alloc (.cells TwoRow BTY)) W) := Lib.hid (by
    have R := reads_two (w.alloc (.cells #[.int .i64 0, .int .i64 1, .int .i64 0, .int .i64 1, .int .i64 3, .int .i64 0, .int .i64 0, .int .i64 0, .int .i64 0, .int .i64 0, .int .i64 0] BTY))
    rw [size1 w] at R
    refine (qmade_any (c := 2) R (by simp)).mono ?_
    rintro e W ⟨P, A', c', rfl, hP, _, _, h⟩
    have hP2 : P = two := hP.trans v_puts
    subst hP2
    obtain ⟨F, hC⟩ := h.one.cs
    exact ⟨_, A', c', rfl, fun V hV => hL ▸ (hC.below hV).src (by rw [v_total]; decide), h.1⟩)
  replace i1 := Lib.hid i1
  replace i2 := Lib.hid i2
  replace i3 := Lib.hid i3
  clear hL
  obtain ⟨⟨k0, k1, k2, k3, k4, k5, k6, k7, k8, k9, k10⟩, _⟩ := Bx.b11 T1
  have BE2 := Lib.hid BE
  have T2 := Lib.hid ((bel1 (w.alloc (.cells #[.int .i64 0, .int .i64 1, .int .i64 0, .int .i64 1, .int .i64 3, .int .i64 0, .int .i64 0, .int .i64 0, .int .i64 0, .int .i64 0, .int .i64 0] BTY)) (.cells TwoRow BTY)).block _ (Bx.lt T1) |>.trans T1)
  clear BE T1
  simp only [TwoRow] at *
  go_enter Try.func30, Try.ntmps30
  go_upto_region 3 with (go_at_call 31; refine MD.out.mono ?_; rintro e w3 ⟨s, A3, c3, rfl, SR0, b3⟩; have B3 := Lib.hid (BE2.out.trans (b3.mono BE2.out.size)); have T3 := Lib.hid ((b3.block _ (Bx.lt T2.out)).trans T2.out); have SR := Lib.hid SR0; clear MD BE2 T2 b3 SR0 k0 k1 k2 k3 k4 k5 k6 k7 k8 k9 k10)
  have MK : Hid (∀ V, Calls Try.prog 28 #[.agg #[.int .i64 5, .int .i64 26]] V fun e w' => ∃ A c, e = .returned (.slice A 1 c) ∧ OwnN w' V.heap.size (.slice A 1 c) [5] ∧ Below V.heap.size V w') := Lib.hid fun V => by
    have := masks_any 5 26 V
    rwa [v_masks] at this
  have NR : Hid (∀ V, Below w3.heap.size w3 V → Calls Try.prog 41 #[.pointer (some ⟨s, 0, none⟩), .agg #[.int .i64 1, .int .i64 0], .int .i64 2, .int .i64 0, .int .i64 2] V fun e w' => ∃ A c, e = .returned (.slice A 2 c) ∧ OwnI w' V.heap.size (.slice A 2 c) [(0, 1, 0), (0, 0, 0)] ∧ Below V.heap.size V w') := Lib.hid fun V hV => by
    have := qnear_any (fun U hU => SR.out U (hV.trans (hU.mono hV.size))) 1 0 2 0 2
    rwa [i2.out] at this
  have WI : Hid (∀ V, Below w3.heap.size w3 V → Calls Try.prog 39 #[.pointer (some ⟨s, 0, none⟩), .agg #[.int .i64 0, .int .i64 0], .agg #[.int .i64 1, .int .i64 0, .int .i64 9, .int .i64 9]] V fun e w' => ∃ A c, e = .returned (.slice A 1 c) ∧ OwnI w' V.heap.size (.slice A 1 c) [(0, 1, 0)] ∧ Below V.heap.size V w') := Lib.hid fun V hV => by
    have := qwithin_any (fun U hU => SR.out U (hV.trans (hU.mono hV.size))) 0 0 (a := 1) (b := 0) (c := 9) (d := 9) (by decide) (by decide) (by decide) (by decide)
    rwa [i3.out] at this
  have IX : Hid (∀ V, Below w3.heap.size w3 V → Calls Try.prog 34 #[.pointer (some ⟨s, 0, none⟩), .agg #[.int .i64 1, .int .i64 0]] V fun e w' => ∃ v, e = .returned v ∧ grows.r V w' ∧ TwoP v w') := Lib.hid fun V hV => by
    have := qids_any (fun U hU => SR.out U (hV.trans (hU.mono hV.size))) 1 0
    rw [i1.out] at this
    refine this.mono ?_
    rintro e U ⟨A, c, rfl, _, hb⟩
    exact ⟨_, rfl, hb, A, c, rfl⟩
  clear SR i1 i2 i3
  go_upto_region 6 with (first
    | (go_at_call 28; refine (MK.out _).mono ?_; rintro e w4 ⟨A4, c4, rfl, o4, b4⟩; clear MK)
    | (go_at_call 41; refine (NR.out _ b4).mono ?_; rintro e w5 ⟨A5, c5, rfl, o5, b5⟩; have B5 := b4.trans (b5.mono b4.size); clear NR)
    | (go_at_call 39; refine (WI.out _ B5).mono ?_; rintro e w6 ⟨A6, c6, rfl, o6, b6⟩; have B6 := B5.trans (b6.mono B5.size); clear WI))
  have O4 := o4.below (b5.trans (b6.mono b5.size))
  have O5 := o5.below b6
  obtain ⟨g4, p4, rfl, _, h4⟩ := ownn_at (l := [5]) (j := 0) (k := 5) O4 rfl
  obtain ⟨g5, p5, rfl, _, ⟨h50, h51, h52⟩, _⟩ := owni_at (l := [(0, 1, 0), (0, 0, 0)]) (j := 0) (k := (0, 1, 0)) O5 rfl
  obtain ⟨g6, p6, rfl, _, ⟨h60, h61, h62⟩, _⟩ := owni_at (l := [(0, 1, 0)]) (j := 0) (k := (0, 1, 0)) o6 rfl
  simp only [Nat.add_zero, Nat.zero_mul] at h4 h50 h51 h52 h60 h61 h62
  have TB := (B6.block _ (Bx.lt T3.out)).trans T3.out
  have q4 := fun p : Lat grows w6 => (p.h.cell (p := ⟨g4, p4, none⟩) (World.block_lt_of_cell? _ _ h4)).trans h4
  have q50 := fun p : Lat grows w6 => (p.h.cell (p := ⟨g5, p5, none⟩) (World.block_lt_of_cell? _ _ h50)).trans h50
  have q51 := fun p : Lat grows w6 => (p.h.cell (p := ⟨g5, p5 + 1, none⟩) (World.block_lt_of_cell? _ _ h51)).trans h51
  have q52 := fun p : Lat grows w6 => (p.h.cell (p := ⟨g5, p5 + 2, none⟩) (World.block_lt_of_cell? _ _ h52)).trans h52
  have q60 := fun p : Lat grows w6 => (p.h.cell (p := ⟨g6, p6, none⟩) (World.block_lt_of_cell? _ _ h60)).trans h60
  have q61 := fun p : Lat grows w6 => (p.h.cell (p := ⟨g6, p6 + 1, none⟩) (World.block_lt_of_cell? _ _ h61)).trans h61
  have q62 := fun p : Lat grows w6 => (p.h.cell (p := ⟨g6, p6 + 2, none⟩) (World.block_lt_of_cell? _ _ h62)).trans h62
  have HB := fun p : Lat grows w6 => (Bx.b11 ((p.h.block _ (Bx.lt TB)).trans TB)).1
  have kb0 := fun p => (HB p).1
  have kb1 := fun p => (HB p).2.1
  have kb2 := fun p => (HB p).2.2.1
  have IXP : Hid (∀ p : Lat grows w6, Calls Try.prog 34 #[.pointer (some ⟨s, 0, none⟩), .agg #[.int .i64 1, .int .i64 0]] p.W fun e w' => ∃ v, e = .returned v ∧ grows.r p.W w' ∧ TwoP v w') := Lib.hid fun p => IX.out p.W (B6.trans (p.h.mono B6.size))
  have EQ : ∀ V : World, (Op.equalIn 10000 31 (.agg #[.int .i64 0, .int .i64 1, .int .i64 0]) (.agg #[.int .i64 0, .int .i64 1, .int .i64 0])).run Try.prog V = .ok true V := fun V => by
    have := eq_id 9998 0 1 0 0 1 0 V
    simpa using this
  have FN := Lib.hid (B3.out.trans (B6.mono B3.out.size))
  clear o4 o5 o6 O4 O5 b4 b5 b6 B5 B6 h4 h50 h51 h52 h60 h61 h62 HB TB T3 B3 IX
  refine Og.grow 48 (by kernel_rfl) (by kernel_rfl) fun hc hf => ?_
  clear hc hf
  simp only [List.take_succ_cons, List.take_zero, List.drop_succ_cons, List.drop_zero]
  iterate 17 (refine Og.det [] rfl (fun J hJ => ?_); go_simp; refine hJ _ _ ?_; clear hJ J)
  refine Og.such 42 TwoP [] rfl twoP_lasts twoP_noBool (fun J hJ => ?_)
  go_simp
  refine ⟨fun p => IXP.out p, hJ _ _ ?_⟩
  clear hJ J
  refine Og.det [(42, TwoP)] rfl (fun J hJ => ?_)
  go_simp
  refine ⟨.int .i64 2, fun p v hv => ?_, hJ _ _ ?_⟩
  · obtain ⟨A, c, rfl⟩ := hv
    go_simp
  clear hJ J
  iterate 29 (refine Og.det [] rfl (fun J hJ => ?_); go_simp; refine hJ _ _ ?_; clear hJ J)
  refine Og.fin fun W hW => ?_
  simp only [Og.opened_cons, Og.opened_nil]
  intro v42 hv42
  clear hv42
  have FIN := FN.out.trans (hW.mono FN.out.size)
  go_wp2
  go_ret
  exact ⟨rfl, FIN⟩
end Go.Proofs.Ytgmgenggboicnaa
