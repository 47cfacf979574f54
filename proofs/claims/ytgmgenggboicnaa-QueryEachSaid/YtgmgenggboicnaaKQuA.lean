/- QuPure, QuMatch, QuNames, QuMasks, in one text. -/
import Derived.Test.YtgmgenggboicnaaKSoA
import Derived.Test.YtgmgenggboicnaaKPu
import Derived.Test.YtgmgenggboicnaaKBase
import Derived.Deep.DeepCutAuto
import Derived.Test.YtgmgenggboicnaaKTab
import Derived.Test.YtgmgenggboicnaaKPz
import Derived.BigQuiet
namespace Go.Proofs.Ytgmgenggboicnaa
open Go Pz
set_option linter.unusedVariables false
set_option linter.unusedSimpArgs false

namespace Qu
def asks (q0 q1 m : Int) : Bool := (bits .and .i64 m q0 == q0) && (bits .and .i64 m q1 == 0)
/-- the document asks by or -/
theorem or_and {m q : Int} (hm : Fit m) (hq : Fit q) : (bits .or .i64 m q == m) = (bits .and .i64 m q == q) := by
  rw [Bool.eq_iff_iff, beq_iff_eq, beq_iff_eq, bits_or, bits_and]
  have e1 := toInt_of hm
  have e2 := toInt_of hq
  have key : ∀ a b : BitVec 64, (a ||| b = a) ↔ (a &&& b = b) := fun a b => by
    constructor
    · intro h
      ext i hi
      have := congrArg (fun v => v.getLsbD i) h
      simp only [BitVec.getLsbD_or] at this
      simp only [BitVec.getElem_and, ← BitVec.getLsbD_eq_getElem]
      cases h1 : a.getLsbD i <;> cases h2 : b.getLsbD i <;> simp_all
    · intro h
      ext i hi
      have := congrArg (fun v => v.getLsbD i) h
      simp only [BitVec.getLsbD_and] at this
      simp only [BitVec.getElem_or, ← BitVec.getLsbD_eq_getElem]
      cases h1 : a.getLsbD i <;> cases h2 : b.getLsbD i <;> simp_all
  have inj : ∀ {a b : BitVec 64}, a.toInt = b.toInt ↔ a = b := fun {a b} => ⟨BitVec.eq_of_toInt_eq, fun h => by rw [h]⟩
  constructor
  · intro h
    have h3 : BitVec.ofInt 64 m ||| BitVec.ofInt 64 q = BitVec.ofInt 64 m := inj.1 (by rw [h, e1])
    rw [(key _ _).1 h3, e2]
  · intro h
    have h3 : BitVec.ofInt 64 m &&& BitVec.ofInt 64 q = BitVec.ofInt 64 q := inj.1 (by rw [h, e2])
    rw [(key _ _).2 h3, e1]
/-- those that are asked for -/
def fil (q0 q1 : Int) (l : List Bn) : List Bn := l.filter fun b => asks q0 q1 b.m
/-- names once, and the same ones: the same, name by name -/
theorem flt_one {l : List Bn} (h : (l.map Bn.id).Nodup) {k : K3} {x : Bn} (hx : x ∈ l) (hk : x.id = k) : flt Bn.id k l = [x] := by
  induction l with
  | nil => cases hx
  | cons y r ih =>
    rw [List.map_cons, List.nodup_cons] at h
    unfold flt
    rcases List.mem_cons.1 hx with rfl | hx
    · rw [List.filter_cons_of_pos (by simpa using hk)]
      congr 1
      rw [List.filter_eq_nil_iff]
      intro z hz
      simp only [decide_eq_true_eq]
      intro e
      exact h.1 (List.mem_map.2 ⟨z, hz, e.trans hk.symm⟩)
    · rw [List.filter_cons_of_neg (by
        simp only [decide_eq_true_eq]
        intro e
        exact h.1 (List.mem_map.2 ⟨x, hx, hk.trans e.symm⟩))]
      exact ih h.2 hx
theorem alike_of {l m : List Bn} (hl : (l.map Bn.id).Nodup) (hm : (m.map Bn.id).Nodup) (h : ∀ x, x ∈ l ↔ x ∈ m) : Pz.Alike Bn.id l m := fun k => by
  by_cases hk : ∃ x ∈ l, x.id = k
  · obtain ⟨x, hx, e⟩ := hk
    rw [flt_one hl hx e, flt_one hm ((h x).1 hx) e]
  · have h1 : flt Bn.id k l = [] := flt_none fun x hx e => hk ⟨x, hx, e⟩
    have h2 : flt Bn.id k m = [] := flt_none fun x hx e => hk ⟨x, (h x).2 hx, e⟩
    rw [h1, h2]
theorem nodup_fil {l : List Bn} (h : (l.map Bn.id).Nodup) (p : Bn → Bool) : ((l.filter p).map Bn.id).Nodup := h.sublist (List.filter_sublist.map _)
theorem srt_fil {κ : Bn → K3} {l : List Bn} (h : Srt κ l) (p : Bn → Bool) : Srt κ (l.filter p) := h.sublist List.filter_sublist
theorem alike_fil {κ : Bn → K3} {l m : List Bn} (h : Pz.Alike κ l m) (p : Bn → Bool) : Pz.Alike κ (l.filter p) (m.filter p) := fun k => by
  have := congrArg (List.filter p) (h k)
  unfold flt at this ⊢
  rw [List.filter_filter, List.filter_filter] at this ⊢
  simpa [Bool.and_comm] using this
/-- the document sorts, then chooses; the code chooses, then sorts -/
theorem sort_fil (l : List Bn) (p : Bn → Bool) : (sortL Bn.id l).filter p = sortL Bn.id (l.filter p) := by
  obtain ⟨h1, h2⟩ := sortL_srt (κ := Bn.id) l
  exact sorted_is (srt_fil h1 p) (alike_fil h2 p)
theorem sort_same {l m : List Bn} (hl : (l.map Bn.id).Nodup) (hm : (m.map Bn.id).Nodup) (h : ∀ x, x ∈ l ↔ x ∈ m) : sortL Bn.id l = sortL Bn.id m := by
  obtain ⟨h1, h2⟩ := sortL_srt (κ := Bn.id) l
  exact sorted_is h1 (h2.trans (alike_of hl hm h))
theorem sort_len (κ : Bn → K3) (l : List Bn) : (sortL κ l).length = l.length := by
  have := sortP_len (κ := κ) l l.length (Nat.le_refl _)
  rwa [sortP_all] at this
end Qu
end Go.Proofs.Ytgmgenggboicnaa
namespace Go.Proofs.Ytgmgenggboicnaa
open Go.RowKit Pz Qu
set_option linter.unusedVariables false
set_option linter.unusedSimpArgs false

abbrev QTY : TypeId := 48
abbrev qV (q0 q1 : Int) : Value := .agg #[.int .i64 q0, .int .i64 q1]
set_option maxHeartbeats 4000000 in
set_option maxRecDepth 100000 in
theorem match_any (q0 q1 m : Int) (w : World) : Calls Try.prog 25 #[qV q0 q1, .int .i64 m] w fun e w' => e = .returned (.bool (asks q0 q1 m)) ∧ Below w.heap.size w w' := by
  have BE := Lib.hid (bel1 w (.cells #[.int .i64 q0, .int .i64 q1] QTY))
  obtain ⟨⟨k0, k1⟩, _⟩ := Bx.b2 (at1 w (.cells #[.int .i64 q0, .int .i64 q1] QTY))
  unfold asks
  generalize hx : bits .and .i64 m q0 = x at *
  generalize hy : bits .and .i64 m q1 = y at *
  generalize htx : (x == q0) = tx at *
  generalize hty : (y == 0) = ty at *
  cases tx with
  | false =>
    go_enter Try.func25, Try.ntmps25
    go_wp2
    go_ret
    exact ⟨rfl, BE.out⟩
  | true =>
    go_enter Try.func25, Try.ntmps25
    go_wp2
    go_ret
    exact ⟨rfl, BE.out⟩
set_option maxHeartbeats 4000000 in
set_option maxRecDepth 100000 in
theorem rmatch_any {q0 m : Int} (h0 : Fit q0) (hm : Fit m) (q1 : Int) (w : World) : Calls Try.prog 26 #[qV q0 q1, .int .i64 m] w fun e w' => e = .returned (.bool (asks q0 q1 m)) ∧ Below w.heap.size w w' := by
  have BE := Lib.hid (bel1 w (.cells #[.int .i64 q0, .int .i64 q1] QTY))
  obtain ⟨⟨k0, k1⟩, _⟩ := Bx.b2 (at1 w (.cells #[.int .i64 q0, .int .i64 q1] QTY))
  unfold asks
  rw [← or_and hm h0]
  generalize hx : bits .or .i64 m q0 = x at *
  generalize hy : bits .and .i64 m q1 = y at *
  generalize htx : (x == m) = tx at *
  generalize hty : (y == 0) = ty at *
  cases tx with
  | false =>
    go_enter Try.func26, Try.ntmps26
    go_wp2
    go_ret
    exact ⟨rfl, BE.out⟩
  | true =>
    go_enter Try.func26, Try.ntmps26
    go_wp2
    go_ret
    exact ⟨rfl, BE.out⟩
end Go.Proofs.Ytgmgenggboicnaa
namespace Go.Proofs.Ytgmgenggboicnaa
open Go.RowKit Pz Ar
set_option linter.unusedVariables false
set_option linter.unusedSimpArgs false

set_option maxHeartbeats 8000000 in
set_option maxRecDepth 100000 in
theorem qnames_any {w : World} {A : Option Addr} {c : Nat} {l : List Bn} (h : RdB w w.heap.size A l) (hl : l.length ≤ 100000) : Calls Try.prog 59 #[.slice A l.length c] w fun e w' => ∃ A' c', e = .returned (.slice A' (l.map Bn.id).length c') ∧ OwnI w' w.heap.size (.slice A' (l.map Bn.id).length c') (l.map Bn.id) ∧ Below w.heap.size w w' := by
  have HR := Lib.hid h
  clear h
  have hl1 : (l.length : Int) ≤ 100000 := by omega
  go_enter Try.func59, Try.ntmps59
  go_wp2
  go_loopw [3, 8] (fun u ix wr => ∃ j : Nat, j ≤ l.length ∧ ix = .int .i64 j ∧ Hid (OwnI wr w.heap.size u ((l.map Bn.id).take j)) ∧ Hid (Below w.heap.size w wr)) (fun u ix _ => l.length - (intOf ix).toNat)
  case atStart => exact ⟨0, Nat.zero_le _, rfl, Lib.hid (.inl ⟨rfl, by simp⟩), Lib.hid (Below.refl _ _)⟩
  case round =>
    rename_i u0 ix0
    obtain ⟨j, hj, rfl, HO, HB⟩ := hrel
    by_cases hjl : j < l.length
    · have t1 : (j : Int) < (l.length : Int) := by omega
      have hjj := List.getElem?_eq_getElem hjl
      obtain ⟨g, o, rfl, hg, ⟨y0, y1, y2, y3, y4, y5, y6, y7, y8, y9, y10⟩⟩ := (HR.out.below HB.out) j _ hjj
      have hT : (l.map Bn.id).take (j + 1) = (l.map Bn.id).take j ++ [l[j].id] := by
        rw [List.take_add_one, List.getElem?_map, hjj]
        rfl
      generalize l[j] = x at *
      obtain ⟨xs, xi, xg, xm, xx, xy, xvx, xvy, xh, xp, xl⟩ := x
      simp only [Bn.id] at *
      have B1 := bel1 wr (bobj ⟨xs, xi, xg, xm, xx, xy, xvx, xvy, xh, xp, xl⟩)
      obtain ⟨⟨k0, k1, k2, _⟩, _⟩ := Bx.b11 (at1 wr (bobj ⟨xs, xi, xg, xm, xx, xy, xvx, xvy, xh, xp, xl⟩))
      obtain ⟨v', w', hr, ho, hgr, _, hf⟩ := app_x (enc := idE) (T := 31) (s := 3) (t := 27) Try.underlying27 id_info rfl (by decide) idE_len idE_one (HO.out.below B1) (by have := B1.size; have := HB.out.size; omega) (xs, xi, xg) (by rw [List.length_take, List.length_map]; omega) (by decide) 27
      have HN := Lib.hid (below_row (HB.out.trans (B1.mono HB.out.size)) hgr (by have := B1.size; have := HB.out.size; omega) hf)
      rw [← hT] at ho
      rw [size1] at hr
      have HV := Lib.hid ho
      have HRun := Lib.hid hr
      clear hT ho hr hgr hf B1 HO HB hjj
      simp only [bobj, idE] at *
      go_wp2_with (at_builtin; refine wpList_append _ rfl (.tmp 12) (.tmp 15) _ _ rfl _ _ rfl rfl _ _ HRun.out ?_)
      go_roundw
      case rel => exact ⟨j + 1, by omega, by go_num, HV, HN⟩
      case measure => simp [intOf]; omega
    · obtain rfl : j = l.length := by omega
      have t2 : ¬ (l.length : Int) < (l.length : Int) := by omega
      have HO2 := HO.out
      rw [List.take_of_length_le (by simp)] at HO2
      obtain ⟨A', c', rfl⟩ := HO2.form
      go_wp2
      go_ret
      exact ⟨A', c', by simp, by simpa using HO2, HB.out⟩
set_option maxHeartbeats 8000000 in
set_option maxRecDepth 100000 in
theorem sameids_yes {w : World} {A1 A2 : Option Addr} {c1 c2 : Nat} {l : List NK} {B1 B2 : Nat} (h1 : OwnI w B1 (.slice A1 l.length c1) l) (h2 : OwnI w B2 (.slice A2 l.length c2) l) (hl : l.length ≤ 100000) :
    Calls Try.prog 33 #[.slice A1 l.length c1, .slice A2 l.length c2] w fun e w' => e = .returned (.bool true) ∧ Below w.heap.size w w' := by
  have H1 := Lib.hid fun W (hW : Below w.heap.size w W) => h1.below hW
  have H2 := Lib.hid fun W (hW : Below w.heap.size w W) => h2.below hW
  clear h1 h2
  have nn : ((l.length : Int) != (l.length : Int)) = false := by simp
  go_enter Try.func33, Try.ntmps33
  go_wp2
  go_loopw [5] (fun i wr => ∃ k : Nat, k ≤ l.length ∧ i = .int .i64 k ∧ Hid (Below w.heap.size w wr)) (fun i _ => l.length - (intOf i).toNat)
  case atStart => exact ⟨0, Nat.zero_le _, rfl, Lib.hid (Below.refl _ _)⟩
  case round =>
    obtain ⟨k, hk, rfl, HB⟩ := hrel
    by_cases hkl : k < l.length
    · have t1 : (k : Int) < (l.length : Int) := by omega
      have hx := List.getElem?_eq_getElem hkl
      obtain ⟨g, o, rfl, _, ⟨c0, c1, c2⟩, _⟩ := owni_at (H1.out wr HB.out) hx
      obtain ⟨g2, o2, rfl, _, ⟨d0, d1, d2⟩, _⟩ := owni_at (H2.out wr HB.out) hx
      have NX := Lib.hid fun q => Below.dn' HB.out q
      clear H1 H2 HB hx
      generalize l[k] = x at *
      obtain ⟨x1, x2, x3⟩ := x
      simp only at *
      have EQ : ∀ V : World, (Op.equalIn 10000 31 (.agg #[.int .i64 x1, .int .i64 x2, .int .i64 x3]) (.agg #[.int .i64 x1, .int .i64 x2, .int .i64 x3])).run Try.prog V = .ok true V := fun V => by
        have := eq_id 9998 x1 x2 x3 x1 x2 x3 V
        simpa using this
      generalize l.length = n at *
      go_wp2
      go_quiet (fail)
      go_wp2
      go_roundw
      case rel => exact ⟨k + 1, by omega, by go_num, Lib.hid (NX.out _)⟩
      case measure => simp [intOf]; omega
    · obtain rfl : k = l.length := by omega
      have t1 : ¬ (l.length : Int) < (l.length : Int) := by omega
      clear H1 H2
      go_wp2
      go_ret
      exact ⟨rfl, HB.out⟩
end Go.Proofs.Ytgmgenggboicnaa
namespace Go.Proofs.Ytgmgenggboicnaa
open Go.RowKit Pz Ar Qu
set_option linter.unusedVariables false
set_option linter.unusedSimpArgs false

abbrev inE (x : Nat) : List Value := [.int .i64 (x : Int)]
theorem inE_len (x : Nat) : (inE x).length = 1 := rfl
theorem inE_one (x : Nat) : ∀ u ∈ inE x, u.oneCell' = true := by
  intro u hu
  simp only [List.mem_cons, List.not_mem_nil, or_false] at hu
  rw [hu]; rfl
theorem int_info : (Try.prog.info? 3).map (fun i => (i.zero, i.size, i.bytes)) = some (some (.int .i64 0), 1, 8) := by kernel_rfl
abbrev OwnN (W : World) (B : Nat) (v : Value) (l : List Nat) : Prop := Rw inE 3 1 W B v l
theorem ownn_at {W : World} {B c : Nat} {A : Option Addr} {l : List Nat} (h : OwnN W B (.slice A l.length c) l) {j k : Nat} (hk : l[j]? = some k) : ∃ g o, A = some ⟨g, o, none⟩ ∧ B ≤ g ∧ W.cell? ⟨g, o + j, none⟩ = some (.int .i64 (k : Int)) := by
  obtain ⟨g, o, c', e, h1, h2, h3⟩ := h.at_ hk
  injection e with e1 e2 e3
  have := (h3 0 _ rfl).1
  rw [Nat.mul_one, Nat.add_zero] at this
  exact ⟨g, o, e1, h1, this⟩
theorem push_n (W : World) {B : Nat} {v : Value} {l : List Nat} (h : OwnN W B v l) (hB : B ≤ W.heap.size) (hl : l.length ≤ 1000) (x : Nat) (ty : TypeId) :
    ∃ A' c' w', (Builtin.append_ #[51, 51] ty #[v, .slice (some ⟨W.heap.size, 0, none⟩) 1 1]).run Try.prog (W.alloc (.cells #[.int .i64 (x : Int)] 3)) = .ok (.slice A' (l ++ [x]).length c') w' ∧ OwnN w' B (.slice A' (l ++ [x]).length c') (l ++ [x]) ∧ Below B W w' := by
  obtain ⟨v', w', hr, ho, hg, hv, hf⟩ := app_x (enc := inE) (T := 3) (s := 1) (t := 51) Try.underlying51 int_info rfl (by decide) inE_len inE_one h hB x (by omega) (by decide) ty
  obtain ⟨A', c', rfl⟩ := ho.form
  exact ⟨A', c', w', hr, ho, (Below.refl B W).grown hg hB hf⟩
namespace Qu
def masks (q0 q1 : Int) (k : Nat) : List Nat := (List.range k).filter fun m => asks q0 q1 (m : Int)
theorem masks_succ (q0 q1 : Int) (k : Nat) : masks q0 q1 (k + 1) = if asks q0 q1 (k : Int) then masks q0 q1 k ++ [k] else masks q0 q1 k := by
  unfold masks
  rw [List.range_succ, List.filter_append]
  simp only [List.filter_cons, List.filter_nil]
  split <;> simp
theorem masks_len (q0 q1 : Int) (k : Nat) : (masks q0 q1 k).length ≤ k := by
  have := List.length_filter_le (fun m : Nat => asks q0 q1 (m : Int)) (List.range k)
  rwa [List.length_range] at this
end Qu
set_option maxHeartbeats 8000000 in
set_option maxRecDepth 100000 in
theorem masks_any (q0 q1 : Int) (w : World) : Calls Try.prog 28 #[qV q0 q1] w fun e w' => ∃ A c, e = .returned (.slice A (masks q0 q1 32).length c) ∧ OwnN w' w.heap.size (.slice A (masks q0 q1 32).length c) (masks q0 q1 32) ∧ Below w.heap.size w w' := by
  have BE := bel1 w (.cells #[.int .i64 q0, .int .i64 q1] QTY)
  have T0 := Lib.hid (at1 w (.cells #[.int .i64 q0, .int .i64 q1] QTY))
  have MT := Lib.hid fun m W => match_any q0 q1 m W
  have SU := Lib.hid fun k => masks_succ q0 q1 k
  have SL := Lib.hid fun k => masks_len q0 q1 k
  go_enter Try.func28, Try.ntmps28
  go_upto_region 3 with fail
  generalize w.alloc (.cells #[.int .i64 q0, .int .i64 q1] QTY) = w1 at *
  have H0 : Hid (Below w.heap.size w w1 ∧ w1.heap[w.heap.size]? = some (.cells #[.int .i64 q0, .int .i64 q1] QTY (0, 0)) ∧ OwnN w1 w.heap.size (.slice none 0 0) (masks q0 q1 0)) := Lib.hid ⟨BE, T0.out, .inl ⟨rfl, rfl⟩⟩
  clear BE T0
  go_loopw [3, 5] (fun v i wr => ∃ (k : Nat) (A : Option Addr) (c : Nat), k ≤ 32 ∧ i = .int .i64 k ∧ v = .slice A (masks q0 q1 k).length c ∧ Hid (Below w.heap.size w wr ∧ wr.heap[w.heap.size]? = some (.cells #[.int .i64 q0, .int .i64 q1] QTY (0, 0)) ∧ OwnN wr w.heap.size (.slice A (masks q0 q1 k).length c) (masks q0 q1 k))) (fun v i _ => 32 - (intOf i).toNat)
  case atStart => exact ⟨0, none, 0, by omega, rfl, rfl, H0⟩
  case round =>
    obtain ⟨k, A, c, hk, rfl, rfl, HI⟩ := hrel
    clear H0
    by_cases hk32 : k < 32
    · have t1 : (k : Int) < 32 := by omega
      obtain ⟨⟨c0, c1⟩, _⟩ := Bx.b2 HI.out.2.1
      have MK := Lib.hid (MT.out (k : Int))
      have SK := SU.out k
      obtain ⟨ta, hta⟩ : ∃ ta, asks q0 q1 (k : Int) = ta := ⟨_, rfl⟩
      rw [hta] at MK SK
      have hl2 := SL.out k
      have HB : Hid (∀ V, Below wr.heap.size wr V → Below w.heap.size w V ∧ V.heap[w.heap.size]? = some (.cells #[.int .i64 q0, .int .i64 q1] QTY (0, 0)) ∧ OwnN V w.heap.size (.slice A (masks q0 q1 k).length c) (masks q0 q1 k)) := Lib.hid fun V hV => ⟨HI.out.1.trans (hV.mono HI.out.1.size), (hV.block _ (Bx.lt HI.out.2.1)).trans HI.out.2.1, HI.out.2.2.below hV⟩
      clear hta MT SU SL HI
      cases ta with
      | false =>
        rw [if_neg (by decide)] at SK
        rw [← SK] at HB
        go_wp2_with (go_at_call 25; refine (MK.out _).mono ?_; rintro e w5 ⟨rfl, b5⟩; clear MK)
        go_roundw
        case rel => exact ⟨k + 1, A, c, by omega, by go_num, by rw [SK], Lib.hid (HB.out _ b5)⟩
        case measure => simp [intOf]; omega
      | true =>
        rw [if_pos rfl] at SK
        have AP : Hid (∀ V, Below wr.heap.size wr V → ∃ A' c' V', (Builtin.append_ #[51, 51] 51 #[.slice A (masks q0 q1 k).length c, .slice (some ⟨V.heap.size, 0, none⟩) 1 1]).run Try.prog (V.alloc (.cells #[.int .i64 (k : Int)] 3)) = .ok (.slice A' (masks q0 q1 (k + 1)).length c') V' ∧ Hid (Below w.heap.size w V' ∧ V'.heap[w.heap.size]? = some (.cells #[.int .i64 q0, .int .i64 q1] QTY (0, 0)) ∧ OwnN V' w.heap.size (.slice A' (masks q0 q1 (k + 1)).length c') (masks q0 q1 (k + 1)))) := Lib.hid fun V hV => by
          obtain ⟨h1, h2, h3⟩ := HB.out V hV
          have h3' : OwnN V (w.heap.size + 1) (.slice A (masks q0 q1 k).length c) (masks q0 q1 k) := by
            rcases h3 with e | ⟨g, o, cap, cur, e, hB, hg, h⟩
            · exact .inl e
            · refine .inr ⟨g, o, cap, cur, e, ?_, hg, h⟩
              have : g ≠ w.heap.size := Bx.ne_type hg h2 (by decide)
              omega
          obtain ⟨A', c', V', hr, ho, hb⟩ := push_n V h3' (Bx.lt h2) (by omega) k 51
          rw [SK]
          exact ⟨A', c', V', hr, Lib.hid ⟨h1.trans (hb.mono (Nat.le_succ _)), (hb.block _ (Nat.lt_succ_self _)).trans h2, ho.base (Nat.le_succ _)⟩⟩
        clear HB SK
        generalize (masks q0 q1 k).length = n at *
        go_wp2_with (first
          | (go_at_call 25; refine (MK.out _).mono ?_; rintro e w5 ⟨rfl, b5⟩; clear MK; obtain ⟨A', c', V', hr, FIN⟩ := AP.out _ b5; have HR := Lib.hid hr; clear hr AP)
          | (at_builtin; refine wpList_append _ rfl (.tmp 11) (.tmp 13) _ _ rfl _ _ rfl rfl _ _ HR.out ?_))
        go_roundw
        case rel => exact ⟨k + 1, A', c', by omega, by go_num, rfl, FIN⟩
        case measure => simp [intOf]; omega
    · obtain rfl : k = 32 := by omega
      have t1 : ¬ (32 : Int) < 32 := by omega
      clear MT SU SL
      go_wp2
      go_ret
      exact ⟨A, c, rfl, HI.out.2.2, HI.out.1⟩
set_option maxHeartbeats 8000000 in
set_option maxRecDepth 100000 in
theorem rmasks_any {q0 : Int} (h0 : Fit q0) (q1 : Int) (w : World) : Calls Try.prog 29 #[qV q0 q1] w fun e w' => ∃ A c, e = .returned (.slice A (masks q0 q1 32).length c) ∧ OwnN w' w.heap.size (.slice A (masks q0 q1 32).length c) (masks q0 q1 32) ∧ Below w.heap.size w w' := by
  have BE := bel1 w (.cells #[.int .i64 q0, .int .i64 q1] QTY)
  have T0 := Lib.hid (at1 w (.cells #[.int .i64 q0, .int .i64 q1] QTY))
  have MT := Lib.hid fun m hm W => rmatch_any (m := m) h0 hm q1 W
  have SU := Lib.hid fun k => masks_succ q0 q1 k
  have SL := Lib.hid fun k => masks_len q0 q1 k
  go_enter Try.func29, Try.ntmps29
  go_upto_region 3 with fail
  generalize w.alloc (.cells #[.int .i64 q0, .int .i64 q1] QTY) = w1 at *
  have H0 : Hid (Below w.heap.size w w1 ∧ w1.heap[w.heap.size]? = some (.cells #[.int .i64 q0, .int .i64 q1] QTY (0, 0)) ∧ OwnN w1 w.heap.size (.slice none 0 0) (masks q0 q1 0)) := Lib.hid ⟨BE, T0.out, .inl ⟨rfl, rfl⟩⟩
  clear BE T0
  go_loopw [3, 4] (fun v i wr => ∃ (k : Nat) (A : Option Addr) (c : Nat), k ≤ 32 ∧ i = .int .i64 k ∧ v = .slice A (masks q0 q1 k).length c ∧ Hid (Below w.heap.size w wr ∧ wr.heap[w.heap.size]? = some (.cells #[.int .i64 q0, .int .i64 q1] QTY (0, 0)) ∧ OwnN wr w.heap.size (.slice A (masks q0 q1 k).length c) (masks q0 q1 k))) (fun v i _ => 32 - (intOf i).toNat)
  case atStart => exact ⟨0, none, 0, by omega, rfl, rfl, H0⟩
  case round =>
    obtain ⟨k, A, c, hk, rfl, rfl, HI⟩ := hrel
    clear H0
    by_cases hk32 : k < 32
    · have t1 : (k : Int) < 32 := by omega
      obtain ⟨⟨c0, c1⟩, _⟩ := Bx.b2 HI.out.2.1
      have MK := Lib.hid (MT.out (k : Int) (by unfold Fit; omega))
      have SK := SU.out k
      obtain ⟨ta, hta⟩ : ∃ ta, asks q0 q1 (k : Int) = ta := ⟨_, rfl⟩
      rw [hta] at MK SK
      have hl2 := SL.out k
      have HB : Hid (∀ V, Below wr.heap.size wr V → Below w.heap.size w V ∧ V.heap[w.heap.size]? = some (.cells #[.int .i64 q0, .int .i64 q1] QTY (0, 0)) ∧ OwnN V w.heap.size (.slice A (masks q0 q1 k).length c) (masks q0 q1 k)) := Lib.hid fun V hV => ⟨HI.out.1.trans (hV.mono HI.out.1.size), (hV.block _ (Bx.lt HI.out.2.1)).trans HI.out.2.1, HI.out.2.2.below hV⟩
      clear hta MT SU SL HI
      cases ta with
      | false =>
        rw [if_neg (by decide)] at SK
        rw [← SK] at HB
        go_wp2_with (go_at_call 26; refine (MK.out _).mono ?_; rintro e w5 ⟨rfl, b5⟩; clear MK)
        go_roundw
        case rel => exact ⟨k + 1, A, c, by omega, by go_num, by rw [SK], Lib.hid (HB.out _ b5)⟩
        case measure => simp [intOf]; omega
      | true =>
        rw [if_pos rfl] at SK
        have AP : Hid (∀ V, Below wr.heap.size wr V → ∃ A' c' V', (Builtin.append_ #[51, 51] 51 #[.slice A (masks q0 q1 k).length c, .slice (some ⟨V.heap.size, 0, none⟩) 1 1]).run Try.prog (V.alloc (.cells #[.int .i64 (k : Int)] 3)) = .ok (.slice A' (masks q0 q1 (k + 1)).length c') V' ∧ Hid (Below w.heap.size w V' ∧ V'.heap[w.heap.size]? = some (.cells #[.int .i64 q0, .int .i64 q1] QTY (0, 0)) ∧ OwnN V' w.heap.size (.slice A' (masks q0 q1 (k + 1)).length c') (masks q0 q1 (k + 1)))) := Lib.hid fun V hV => by
          obtain ⟨h1, h2, h3⟩ := HB.out V hV
          have h3' : OwnN V (w.heap.size + 1) (.slice A (masks q0 q1 k).length c) (masks q0 q1 k) := by
            rcases h3 with e | ⟨g, o, cap, cur, e, hB, hg, h⟩
            · exact .inl e
            · refine .inr ⟨g, o, cap, cur, e, ?_, hg, h⟩
              have : g ≠ w.heap.size := Bx.ne_type hg h2 (by decide)
              omega
          obtain ⟨A', c', V', hr, ho, hb⟩ := push_n V h3' (Bx.lt h2) (by omega) k 51
          rw [SK]
          exact ⟨A', c', V', hr, Lib.hid ⟨h1.trans (hb.mono (Nat.le_succ _)), (hb.block _ (Nat.lt_succ_self _)).trans h2, ho.base (Nat.le_succ _)⟩⟩
        clear HB SK
        generalize (masks q0 q1 k).length = n at *
        go_wp2_with (first
          | (go_at_call 26; refine (MK.out _).mono ?_; rintro e w5 ⟨rfl, b5⟩; clear MK; obtain ⟨A', c', V', hr, FIN⟩ := AP.out _ b5; have HR := Lib.hid hr; clear hr AP)
          | (at_builtin; refine wpList_append _ rfl (.tmp 12) (.tmp 14) _ _ rfl _ _ rfl rfl _ _ HR.out ?_))
        go_roundw
        case rel => exact ⟨k + 1, A', c', by omega, by go_num, rfl, FIN⟩
        case measure => simp [intOf]; omega
    · obtain rfl : k = 32 := by omega
      have t1 : ¬ (32 : Int) < 32 := by omega
      clear MT SU SL
      go_wp2
      go_ret
      exact ⟨A, c, rfl, HI.out.2.2, HI.out.1⟩
set_option maxHeartbeats 8000000 in
set_option maxRecDepth 100000 in
theorem qsame_yes {w : World} {A1 A2 : Option Addr} {c1 c2 : Nat} {l : List Nat} {B1 B2 : Nat} (h1 : OwnN w B1 (.slice A1 l.length c1) l) (h2 : OwnN w B2 (.slice A2 l.length c2) l) (hl : l.length ≤ 1000) :
    Calls Try.prog 27 #[.slice A1 l.length c1, .slice A2 l.length c2] w fun e w' => e = .returned (.bool true) ∧ Below w.heap.size w w' := by
  have H1 := Lib.hid fun W (hW : Below w.heap.size w W) => h1.below hW
  have H2 := Lib.hid fun W (hW : Below w.heap.size w W) => h2.below hW
  clear h1 h2
  have nn : ((l.length : Int) != (l.length : Int)) = false := by simp
  go_enter Try.func27, Try.ntmps27
  go_wp2
  go_loopw [5] (fun i wr => ∃ k : Nat, k ≤ l.length ∧ i = .int .i64 k ∧ Hid (Below w.heap.size w wr)) (fun i _ => l.length - (intOf i).toNat)
  case atStart => exact ⟨0, Nat.zero_le _, rfl, Lib.hid (Below.refl _ _)⟩
  case round =>
    obtain ⟨k, hk, rfl, HB⟩ := hrel
    by_cases hkl : k < l.length
    · have t1 : (k : Int) < (l.length : Int) := by omega
      have hx := List.getElem?_eq_getElem hkl
      obtain ⟨g, o, rfl, _, c0⟩ := ownn_at (H1.out wr HB.out) hx
      obtain ⟨g2, o2, rfl, _, c1⟩ := ownn_at (H2.out wr HB.out) hx
      have NX := Lib.hid fun q => Below.dn' HB.out q
      have n2 : ((l[k] : Int) != (l[k] : Int)) = false := by simp
      clear H1 H2 HB hx
      generalize l[k] = x at *
      generalize l.length = n at *
      go_wp2
      go_quiet (fail)
      go_wp2
      go_roundw
      case rel => exact ⟨k + 1, by omega, by go_num, Lib.hid (NX.out _)⟩
      case measure => simp [intOf]; omega
    · obtain rfl : k = l.length := by omega
      have t1 : ¬ (l.length : Int) < (l.length : Int) := by omega
      clear H1 H2
      go_wp2
      go_ret
      exact ⟨rfl, HB.out⟩
end Go.Proofs.Ytgmgenggboicnaa
