/- The code: the names of the dead, each once. The library's swapRangeCmpFunc, over a row of one's own. Written by wip/tools/gensw.py. -/
import Derived.Test.YtljaahemlcaffaaGreatK22
import Derived.Test.YtljaahemlcaffaaGreatK10
import Derived.Test.YtljaahemlcaffaaGreatK02
import Derived.Lib.SliceRun
import Derived.Test.YtljaahemlcaffaaGreatK12
import Derived.BigRegion
namespace Go.Proofs.YtljaahemlcaffaaGreat
open Go.RowKit Pz Sp Go.Shelf
set_option linter.unusedVariables false
set_option linter.unusedSimpArgs false

theorem zero3 (n : Nat) : (Builtin.zeroCells (Value.cells (.agg #[.int .i64 0, .int .i64 0, .int .i64 0])) n).toList = List.replicate (n * 3) (.int .i64 0) := by
  apply List.ext_getElem
  · rw [Array.length_toList, size_zeroCells]
    simp [Value.cells]
  · intro i h1 h2
    have h3 : i % 3 < 3 := Nat.mod_lt _ (by decide)
    simp only [Builtin.zeroCells, Array.getElem_toList, Array.getElem_map, Array.getElem_range, List.getElem_replicate]
    show (#[Value.int .i64 0, .int .i64 0, .int .i64 0] : Array Value)[i % 3]! = _
    have : i % 3 = 0 ∨ i % 3 = 1 ∨ i % 3 = 2 := by omega
    rcases this with h | h | h <;> rw [h] <;> rfl
/-- a row of names is cleared behind its first ones -/
theorem namesclear {w W : World} {L : List Piece} {g o n c i : Nat} {R : List K3} (H : Sep w (row nkE 40 3 (.slice (some ⟨g, o, none⟩) n c) R :: L) W) (hn : R.length = n) (hi : i < n) :
    ∃ V, (∀ ty, (Builtin.clear_ #[33] ty #[.slice (some ⟨g, o + i * 3, none⟩) (n - i) (c - i)]).run Tryz.prog W = .ok (.tuple #[]) V) ∧ Sep w (row nkE 40 3 (.slice (some ⟨g, o, none⟩) i c) (R.take i) :: L) V := by
  subst hn
  obtain ⟨G, ⟨h1, h2⟩, h3, next⟩ := H.one
  have h1' := h1
  rcases h1 with ⟨e, _⟩ | ⟨g', o', cap, cur, e, q1, q2, q3, q4, q5, q6⟩
  · cases e
  · cases e
    obtain ⟨inf, hinf, hz, e2, e3⟩ := info_parts id_info
    have hst := run_storeCells_cells (P := Tryz.prog) g (o + i * 3) (List.replicate ((R.length - i) * 3) (Value.int .i64 0)) 0 W (fun j hj => by
      rw [List.length_replicate] at hj
      have hx : o + i * 3 + j < cur.size := by omega
      simp [World.cell?, q2, hx]) (fun j hj => by simp [World.frozen?, q2]) (by intro v hv; rw [List.eq_of_mem_replicate hv]; rfl)
    simp only [Nat.add_zero] at hst
    obtain ⟨cur', a1, a2, a3, a4, a5⟩ := set_cells q2 (List.replicate ((R.length - i) * 3) (Value.int .i64 0)) (o + i * 3) (by rw [List.length_replicate]; omega)
    refine ⟨W.setCells g (o + i * 3) (List.replicate ((R.length - i) * 3) (.int .i64 0)), fun ty => ?_, next _ (row nkE 40 3 _ (R.take i)) G ⟨a5.os, a5.tape, a5.output, a5.size, fun k hk hne => a5.block k hk fun e => hne ((h2 k).2 (by rw [e]; rfl))⟩ ⟨?_, h2⟩ fun k hk => .inl hk⟩
    · obtain ⟨m, hm⟩ : ∃ m, R.length - i = m + 1 := ⟨R.length - i - 1, by omega⟩
      rw [hm] at hst ⊢
      have hzv : ∀ V : World, (zeroValue 40).run Tryz.prog V = .ok (.agg #[.int .i64 0, .int .i64 0, .int .i64 0]) V := fun V => by simp [zeroValue, typeInfo, hinf, hz]
      simp [Builtin.clear_, run_underlying Tryz.underlying33, hzv, zero3, hst]
    · have hl : (R.take i).length = i := by rw [List.length_take]; omega
      have hx := rw_of_cells (enc := nkE) (T := 40) (s := 3) (B := 0) (l := R.take i) (Nat.zero_le g) a1 (by omega) q4 (by rw [a2]; exact q5) fun j x hj e u hu => by
        have he : e < 3 := (List.getElem?_eq_some_iff.1 hu).1
        have hj2 : j < i := by have := (List.getElem?_eq_some_iff.1 hj).1; omega
        rw [List.getElem?_take, if_pos hj2] at hj
        rw [a4 _ (.inl (by omega))]
        exact (Bx.cell q2 (q6 j x hj e u hu)).1
      rwa [hl] at hx
theorem nm_at {W : World} {B g o n c : Nat} {l : List K3} (h : OwnN W B (.slice (some ⟨g, o, none⟩) n c) l) {k a : Nat} {x : K3} (hk : l[k]? = some x) (ha : a = o + k * 3) : (W.cell? ⟨g, a, none⟩ = some (.int .i64 x.1) ∧ W.cell? ⟨g, a + 1, none⟩ = some (.int .i64 x.2.1) ∧ W.cell? ⟨g, a + 2, none⟩ = some (.int .i64 x.2.2)) ∧ (W.frozen? ⟨g, a, none⟩ = false ∧ W.frozen? ⟨g, a + 1, none⟩ = false ∧ W.frozen? ⟨g, a + 2, none⟩ = false) := by
  obtain ⟨g', o', c', e, _, _, hc⟩ := h.at_ hk
  cases e
  subst ha
  exact ⟨⟨(hc 0 _ rfl).1, by rw [Nat.add_assoc]; exact (hc 1 _ rfl).1, by rw [Nat.add_assoc]; exact (hc 2 _ rfl).1⟩, (hc 0 _ rfl).2, by rw [Nat.add_assoc]; exact (hc 1 _ rfl).2, by rw [Nat.add_assoc]; exact (hc 2 _ rfl).2⟩
/-- a name over one that stands there -/
theorem nm_set {w W : World} {L : List Piece} {g o n c k : Nat} {R : List K3} (H : Sep w (row nkE 40 3 (.slice (some ⟨g, o, none⟩) n c) R :: L) W) (hn : R.length = n) (hk : k < n) (x : K3) : Sep w (row nkE 40 3 (.slice (some ⟨g, o, none⟩) n c) (R.set k x) :: L) (((W.setCell ⟨g, o + k * 3, none⟩ (.int .i64 x.1)).setCell ⟨g, o + k * 3 + 1, none⟩ (.int .i64 x.2.1)).setCell ⟨g, o + k * 3 + 2, none⟩ (.int .i64 x.2.2)) := by
  subst hn
  obtain ⟨G, ⟨h1, h2⟩, h3, next⟩ := H.one
  rcases h1 with ⟨e, _⟩ | ⟨g', o', cap, cur, e, q1, q2, q3, q4, q5, q6⟩
  · cases e
  · cases e
    obtain ⟨cur', a1, a2, a3, a4, a5⟩ := set_cells q2 (nkE x) (o + k * 3) (by rw [nkE_len]; omega)
    have hx := rw_of_cells (enc := nkE) (T := 40) (s := 3) (B := 0) (l := R.set k x) (Nat.zero_le g) a1 (by rw [List.length_set]; exact q3) q4 (by rw [a2]; exact q5) fun j y hj e u hu => by
      have he : e < 3 := (List.getElem?_eq_some_iff.1 hu).1
      by_cases hjk : j = k
      · subst hjk
        rw [List.getElem?_set_self hk] at hj
        have := Option.some.inj hj
        subst this
        rw [← Nat.add_assoc]
        exact a3 e u hu
      · rw [List.getElem?_set_ne (fun e => hjk e.symm)] at hj
        rw [a4 _ (by rw [nkE_len]; omega)]
        exact (Bx.cell q2 (q6 j y hj e u hu)).1
    rw [List.length_set] at hx
    exact next _ (row nkE 40 3 _ (R.set k x)) G ⟨a5.os, a5.tape, a5.output, a5.size, fun k hk hne => a5.block k hk fun e => hne ((h2 k).2 (by rw [e]; rfl))⟩ ⟨hx, h2⟩ fun k hk => .inl hk
namespace Tk
/-- a row that is made shorter in place: u elements of it are gone through, k are left -/
structure CpI (R l : List K3) (u k : Nat) : Prop where
  len : R.length = l.length
  k_ : (dd (l.take u)).length = k
  lt : k < u
  lo : R.take k = dd (l.take u)
  hi : R.drop (u - 1) = l.drop (u - 1)
theorem CpI.at_ {R l : List K3} {u k : Nat} (h : CpI R l u k) {j : Nat} (hj : u - 1 ≤ j) (hl : j < l.length) : R[j]? = some l[j] := by
  have e := congrArg (fun q => q[j - (u - 1)]?) h.hi
  simp only [List.getElem?_drop, show u - 1 + (j - (u - 1)) = j by omega] at e
  rw [e, List.getElem?_eq_getElem hl]
theorem CpI.next {R l : List K3} {u k : Nat} (h : CpI R l u k) (h0 : 0 < u) : R.drop u = l.drop u := by
  have e := congrArg (List.drop 1) h.hi
  rw [List.drop_drop, List.drop_drop, show u - 1 + 1 = u by omega] at e
  exact e
theorem CpI.same {R l : List K3} {u k : Nat} (h : CpI R l u k) (h0 : 0 < u) (hl : u < l.length) (e : l[u - 1] = l[u]) : CpI R l (u + 1) k := by
  have e2 : dd (l.take (u + 1)) = dd (l.take u) := by rw [dd_take h0 hl, if_pos e]
  exact ⟨h.len, by rw [e2]; exact h.k_, by have := h.lt; omega, by rw [e2]; exact h.lo, by rw [Nat.add_sub_cancel]; exact h.next h0⟩
theorem CpI.more {R l : List K3} {u k : Nat} (h : CpI R l u k) (h0 : 0 < u) (hl : u < l.length) (e : l[u - 1] ≠ l[u]) : CpI (R.set k l[u]) l (u + 1) (k + 1) := by
  have e2 : dd (l.take (u + 1)) = dd (l.take u) ++ [l[u]] := by rw [dd_take h0 hl, if_neg e]
  have hk := h.lt
  have hkR : k < R.length := by rw [h.len]; omega
  refine ⟨by rw [List.length_set, h.len], by rw [e2, List.length_append, h.k_]; rfl, by omega, ?_, ?_⟩
  · rw [e2, List.take_succ_eq_append_getElem (by rw [List.length_set]; exact hkR), List.take_set_of_le (Nat.le_refl _), List.getElem_set_self, h.lo]
  · rw [Nat.add_sub_cancel, List.drop_set_of_lt hk, h.next h0]
theorem dd_first {l : List K3} {k : Nat} (h0 : 0 < k) (hl : k < l.length) (h : dd (l.take k) = l.take k) (e : l[k - 1] ≠ l[k]) : dd (l.take (k + 1)) = l.take (k + 1) := by
  rw [dd_take h0 hl, if_neg e, h, List.take_succ_eq_append_getElem hl]
theorem CpI.start {l : List K3} {k : Nat} (h0 : 0 < k) (hl : k < l.length) (h : dd (l.take k) = l.take k) (e : l[k - 1] = l[k]) : CpI l l (k + 1) k := by
  have e2 : dd (l.take (k + 1)) = l.take k := by rw [dd_take h0 hl, if_pos e, h]
  exact ⟨rfl, by rw [e2, List.length_take]; omega, by omega, e2.symm, rfl⟩
theorem dd_few {l : List K3} (h : l.length < 2) : dd l = l := by
  rcases l with _ | ⟨a, _ | ⟨b, l⟩⟩
  · rfl
  · rfl
  · simp only [List.length_cons] at h; omega
end Tk
theorem en_cp : ∀ args w, (callFunc 78 args).run Tryz.prog w = .ok (.enter 78 args) w := enters_of Tryz.func78 (by kernel_rfl) rfl
set_option maxHeartbeats 16000000 in
set_option maxRecDepth 100000 in
theorem compact_any {w W : World} {L : List Piece} {A : Option Addr} {c n : Nat} {l : List K3} (H : Sep w (row nkE 40 3 (.slice A n c) l :: L) W) (hn : l.length = n) (hl : n ≤ 1000000) :
    Calls Tryz.prog 78 #[.slice A n c] W fun e V => ∃ m, e = .returned (.slice A m c) ∧ Sep w (row nkE 40 3 (.slice A m c) (Tk.dd l) :: L) V := by
  by_cases h2 : n < 2
  · have e := Tk.dd_few (l := l) (by omega)
    rw [e]
    have t1 : (n : Int) < 2 := by omega
    have HS := Lib.hid H
    clear H e
    replace hn := Lib.hid hn
    go_enter Tryz.func78, Tryz.ntmps78
    go_wp2
    go_ret
    exact ⟨_, rfl, HS.out⟩
  · have t1 : ¬ (n : Int) < 2 := by omega
    have hform : ∃ g o, A = some ⟨g, o, none⟩ ∧ n ≤ c ∧ c ≤ 9223372036854775807 := by
      rcases H.rows 0 rfl with ⟨e, e2⟩ | ⟨g, o, cap, cur, e, _, _, q3, q4, _⟩
      · rw [e2] at hn; simp at hn; omega
      · cases e; exact ⟨g, o, rfl, by omega, q4⟩
    obtain ⟨g, o, rfl, hnc, hc63⟩ := hform
    have HS := Lib.hid H
    have D1 : Hid (Tk.dd (l.take 1) = l.take 1) := Lib.hid (Tk.dd_few (by rw [List.length_take]; omega))
    clear H
    have hn' := Lib.hid hn
    go_enter Tryz.func78, Tryz.ntmps78
    go_wp2
    go_loopw [3] (fun kx wr => ∃ k : Nat, kx = .int .i64 ((k : Int) + 1) ∧ k + 1 ≤ n ∧ Hid (Tk.dd (l.take (k + 1)) = l.take (k + 1)) ∧ Hid (Sep w (row nkE 40 3 (.slice (some ⟨g, o, none⟩) n c) l :: L) wr)) (fun kx _ => n - (intOf kx).toNat)
    case atStart => exact ⟨0, rfl, by omega, D1, HS⟩
    case round =>
      clear HS D1
      obtain ⟨k, rfl, hkn, HD, HS⟩ := hrel
      by_cases hlt : k + 1 < n
      · have q1 : (k : Int) + 1 < (n : Int) := by omega
        have q2 : (k : Int) < (n : Int) := by omega
        have q3 : IntKind.i64.wrap (k : Int) = (k : Int) := IntWalk.i64_in _ ⟨by omega, by omega⟩
        have q4 : (0 : Int) ≤ (k : Int) + 1 := by omega
        have q5 : ((k : Int) + 1).toNat = k + 1 := by omega
        have hk1 : k + 1 < l.length := by omega
        have hk0 : k < l.length := by omega
        have hro := HS.out.rows 0 rfl
        obtain ⟨⟨a0, a1, a2⟩, _⟩ := nm_at hro (List.getElem?_eq_getElem hk0) rfl
        obtain ⟨⟨b0, b1, b2⟩, _⟩ := nm_at hro (List.getElem?_eq_getElem hk1) rfl
        have EQ := fun V => eq_id 9998 l[k + 1].1 l[k + 1].2.1 l[k + 1].2.2 l[k].1 l[k].2.1 l[k].2.2 V
        have EB : ((l[k + 1].1 == l[k].1) && ((l[k + 1].2.1 == l[k].2.1) && (l[k + 1].2.2 == l[k].2.2))) = decide (l[k] = l[k + 1]) := by
          rw [Bool.eq_iff_iff]
          simp only [Bool.and_eq_true, beq_iff_eq, decide_eq_true_eq, Prod.ext_iff]
          constructor
          · rintro ⟨h1, h2, h3⟩; exact ⟨h1.symm, h2.symm, h3.symm⟩
          · rintro ⟨h1, h2, h3⟩; exact ⟨h1.symm, h2.symm, h3.symm⟩
        have NE : Hid (decide (l[k] = l[k + 1]) = false → Tk.dd (l.take (k + 1 + 1)) = l.take (k + 1 + 1)) := Lib.hid fun h => Tk.dd_first (by omega) hk1 HD.out (by simpa using h)
        have YE : Hid (decide (l[k] = l[k + 1]) = true → Tk.CpI l l (k + 1 + 1) (k + 1)) := Lib.hid fun h => Tk.CpI.start (by omega) hk1 HD.out (by simpa using h)
        rw [EB] at EQ
        generalize decide (l[k] = l[k + 1]) = t at *
        clear EB hro HD
        generalize l[k].1 = x0 at *
        generalize l[k].2.1 = x1 at *
        generalize l[k].2.2 = x2 at *
        generalize l[k + 1].1 = y0 at *
        generalize l[k + 1].2.1 = y1 at *
        generalize l[k + 1].2.2 = y2 at *
        simp at EQ
        cases t with
        | false =>
          have NX := Lib.hid (NE.out rfl)
          clear NE YE
          go_upto_region 6 with fail
          go_quiet (fail)
          rename_i nq
          clear a0 a1 a2 b0 b1 b2
          have HN := Lib.hid (HS.out.below (Below.dn' (Below.refl _ _) nq))
          clear HS
          go_wp2
          go_roundw
          case rel => exact ⟨k + 1, by go_num, by omega, NX, HN⟩
          case measure => simp [intOf]; omega
        | true =>
          have I0 := Lib.hid (YE.out rfl)
          clear NE YE
          go_upto_region 6 with fail
          go_quiet (fail)
          rename_i nq
          clear a0 a1 a2 b0 b1 b2
          have HN := Lib.hid (HS.out.below (Below.dn' (Below.refl _ _) nq))
          clear HS EQ
          have hck : ¬ (c = k + 1) := by omega
          obtain ⟨K, hK⟩ : ∃ K, K = k + 1 := ⟨_, rfl⟩
          have hK' : ((k : Int) + 1) = (K : Int) := by omega
          rw [hK']
          rw [← hK] at I0 hck
          have hKn : K < n := by omega
          clear hK' hK q1 q2 q3 q4 q5 hlt hkn hk1 hk0
          go_wp2
          go_loopw [3, 5] (fun kx jx wr => ∃ (u t : Nat) (R : List K3), kx = .int .i64 u ∧ jx = .int .i64 ((t : Int) + 1) ∧ K + t + 1 ≤ n ∧ Hid (Tk.CpI R l (K + t + 1) u) ∧ Hid (Sep w (row nkE 40 3 (.slice (some ⟨g, o, none⟩) n c) R :: L) wr)) (fun _ jx _ => n - (intOf jx).toNat)
          case atStart => exact ⟨K, 0, l, rfl, rfl, by omega, I0, HN⟩
          case round =>
            clear HN I0
            obtain ⟨u, t, R, rfl, rfl, htn, HI, HS⟩ := hrel
            have hul := HI.out.lt
            have hRn : R.length = n := HI.out.len.trans hn
            have huu : u < n := by omega
            by_cases hlt : K + t + 1 < n
            · have q1 : (t : Int) + 1 < ((n - K : Nat) : Int) := by omega
              have q2 : (t : Int) < ((n - K : Nat) : Int) := by omega
              have q3 : IntKind.i64.wrap (t : Int) = (t : Int) := IntWalk.i64_in _ ⟨by omega, by omega⟩
              have q4 : (0 : Int) ≤ (t : Int) + 1 := by omega
              have q5 : ((t : Int) + 1).toNat = t + 1 := by omega
              have q6 : (u : Int) < (n : Int) := by omega
              have hk1 : K + t + 1 < l.length := by omega
              have hk0 : K + t < l.length := by omega
              have hro := HS.out.rows 0 rfl
              have r0 := HI.out.at_ (j := K + t) (by omega) hk0
              have r1 := HI.out.at_ (j := K + t + 1) (by omega) hk1
              obtain ⟨⟨a0, a1, a2⟩, _⟩ := nm_at hro r0 (show o + K * 3 + t * 3 = o + (K + t) * 3 by omega)
              obtain ⟨⟨b0, b1, b2⟩, _⟩ := nm_at hro r1 (show o + K * 3 + (t + 1) * 3 = o + (K + t + 1) * 3 by omega)
              obtain ⟨_, f0, f1, f2⟩ := nm_at hro (List.getElem?_eq_getElem (show u < R.length by omega)) rfl
              have c0 := (nm_at hro (List.getElem?_eq_getElem (show u < R.length by omega)) rfl).1
              obtain ⟨d0, d1, d2⟩ := c0
              have EQ := fun V => eq_id 9998 l[K + t + 1].1 l[K + t + 1].2.1 l[K + t + 1].2.2 l[K + t].1 l[K + t].2.1 l[K + t].2.2 V
              have EB : ((l[K + t + 1].1 == l[K + t].1) && ((l[K + t + 1].2.1 == l[K + t].2.1) && (l[K + t + 1].2.2 == l[K + t].2.2))) = decide (l[K + t] = l[K + t + 1]) := by
                rw [Bool.eq_iff_iff]
                simp only [Bool.and_eq_true, beq_iff_eq, decide_eq_true_eq, Prod.ext_iff]
                constructor
                · rintro ⟨h1, h2, h3⟩; exact ⟨h1.symm, h2.symm, h3.symm⟩
                · rintro ⟨h1, h2, h3⟩; exact ⟨h1.symm, h2.symm, h3.symm⟩
              have NE : Hid (decide (l[K + t] = l[K + t + 1]) = false → Tk.CpI (R.set u l[K + t + 1]) l (K + (t + 1) + 1) (u + 1)) := Lib.hid fun h => HI.out.more (by omega) hk1 (by simpa using h)
              have YE : Hid (decide (l[K + t] = l[K + t + 1]) = true → Tk.CpI R l (K + (t + 1) + 1) u) := Lib.hid fun h => HI.out.same (by omega) hk1 (by simpa using h)
              have PUT := Lib.hid fun (V : World) (h : Sep w (row nkE 40 3 (.slice (some ⟨g, o, none⟩) n c) R :: L) V) => nm_set h hRn huu l[K + t + 1]
              rw [EB] at EQ
              generalize decide (l[K + t] = l[K + t + 1]) = tt at *
              clear EB hro HI r0 r1
              generalize l[K + t + 1] = y at *
              generalize l[K + t].1 = x0 at *
              generalize l[K + t].2.1 = x1 at *
              generalize l[K + t].2.2 = x2 at *
              obtain ⟨y0, y1, y2⟩ := y
              simp only at *
              generalize R[u].1 = e0 at *
              generalize R[u].2.1 = e1 at *
              generalize R[u].2.2 = e2 at *
              simp at EQ
              cases tt with
              | false =>
                have NX := Lib.hid (NE.out rfl)
                clear NE YE
                go_upto_region 11 with fail
                go_quiet (fail)
                rename_i nq
                have HP := Lib.hid (PUT.out _ (HS.out.below (Below.dn' (Below.refl _ _) nq)))
                clear HS PUT EQ
                go_wp2
                go_roundw
                case rel => exact ⟨u + 1, t + 1, _, by go_num, by go_num, by omega, NX, HP⟩
                case measure => simp [intOf]; omega
              | true =>
                have NX := Lib.hid (YE.out rfl)
                clear NE YE PUT
                go_upto_region 11 with fail
                go_quiet (fail)
                rename_i nq
                have HN := Lib.hid (HS.out.below (Below.dn' (Below.refl _ _) nq))
                clear HS EQ
                go_wp2
                go_roundw
                case rel => exact ⟨u, t + 1, R, rfl, by go_num, by omega, NX, HN⟩
                case measure => simp [intOf]; omega
            · have q1 : ¬ (t : Int) + 1 < ((n - K : Nat) : Int) := by omega
              have e : K + t + 1 = n := by omega
              have HE : R.take u = Tk.dd l := by
                have := HI.out.lo
                rwa [e, ← hn, List.take_length] at this
              have hcu : ¬ (c = u) := by omega
              obtain ⟨V, hcl, HV⟩ := namesclear HS.out hRn huu
              rw [HE] at HV
              have HW := Lib.hid HV
              clear HV HS HI HE e
              go_wp2
              go_ret
              exact ⟨u, rfl, HW.out⟩
      · have e : k + 1 = n := by omega
        have q1 : ¬ (k : Int) + 1 < (n : Int) := by omega
        have HE : Tk.dd l = l := by
          have := HD.out
          rwa [e, ← hn, List.take_length] at this
        clear HD
        replace HE := Lib.hid HE
        replace hn := Lib.hid hn
        replace e := Lib.hid e
        go_wp2
        go_ret
        exact ⟨n, rfl, by rw [HE.out]; exact HS.out⟩
set_option maxHeartbeats 8000000 in
set_option maxRecDepth 100000 in
theorem dead_any {w W : World} {L : List Piece} {p q : Nat} {z : Int} {v1 v2 : Value} {A : Option Addr} {c n : Nat} {d : List K3} (H : Sep w (box p (stO q z v1 v2 (.slice A n c)) :: row nkE 40 3 (.slice A n c) d :: L) W) (hn : d.length = n) (hl : n ≤ 1000000) :
    Calls Tryz.prog 41 #[.pointer (some ⟨p, 0, none⟩)] W fun e V => e = .returned (.tuple #[]) ∧ ∃ m, Sep w (box p (stO q z v1 v2 (.slice A m c)) :: row nkE 40 3 (.slice A m c) (Tk.dd (srtN d)) :: L) V := by
  have HS := Lib.hid H
  have S1 := Lib.hid (sortn_any (show Sep w (row nkE 40 3 (.slice A n c) d :: box p (stO q z v1 v2 (.slice A n c)) :: L) W from H.pull 1 rfl) hn hl)
  have S2 := Lib.hid fun (V : World) (h : Sep w (row nkE 40 3 (.slice A n c) (srtN d) :: box p (stO q z v1 v2 (.slice A n c)) :: L) V) => compact_any h ((srtN_perm d).length_eq.trans hn) hl
  obtain ⟨⟨_, _, _, k3, _⟩, _⟩ := Bx.b5 (H.held 0 rfl)
  clear H
  generalize Tk.dd (srtN d) = R at *
  generalize srtN d = D at *
  replace hn := Lib.hid hn
  go_enter Tryz.func41, Tryz.ntmps41
  go_upto_region 1 with (go_at_call 77; with_reducible refine S1.out.mono ?_; rintro e w1 ⟨rfl, h1⟩; have H1 := Lib.hid h1; clear h1 S1 k3)
  obtain ⟨⟨_, _, _, k3, _⟩, _⟩ := Bx.b5 (H1.out.held 1 rfl)
  have C1 := Lib.hid (S2.out w1 H1.out)
  clear S2 HS
  go_wp2_with (go_at_call 78; with_reducible refine C1.out.mono ?_; rintro e V ⟨m, rfl, HV⟩; clear k3 C1; obtain ⟨⟨_, _, _, c32, _⟩, _, _, _, f32, _⟩ := Bx.b5 (HV.held 1 rfl); have HW := Lib.hid HV; clear HV)
  go_end0
  exact ⟨rfl, m, Sep.cell (o := 3) (Sep.pull HW.out 1 rfl) _⟩
end Go.Proofs.YtljaahemlcaffaaGreat
namespace Go.Proofs.YtljaahemlcaffaaGreat
open Go.RowKit Pz
set_option linter.unusedVariables false
variable {κ : Bn → K3} {fn : Nat} {cap : Array Value}

namespace Pz
/-- two exchanged -/
def sw (l : List Bn) (i j : Nat) : List Bn := match l[i]?, l[j]? with | some x, some y => (l.set i y).set j x | _, _ => l
theorem sw_is {l : List Bn} {i j : Nat} {x y : Bn} (hx : l[i]? = some x) (hy : l[j]? = some y) : sw l i j = (l.set i y).set j x := by
  unfold sw
  rw [hx, hy]
theorem sw_len (l : List Bn) (i j : Nat) : (sw l i j).length = l.length := by
  unfold sw
  split
  · rw [List.length_set, List.length_set]
  · rfl
/-- n in a row -/
def swr (l : List Bn) (a b : Nat) : Nat → List Bn
  | 0 => l
  | n + 1 => swr (sw l a b) (a + 1) (b + 1) n
theorem swr_len : ∀ (n : Nat) (l : List Bn) (a b : Nat), (swr l a b n).length = l.length
  | 0, _, _, _ => rfl
  | n + 1, l, a, b => by
    rw [swr, swr_len n, sw_len]
theorem sw_parts (P M Q : List Bn) (x y : Bn) : sw (P ++ x :: (M ++ y :: Q)) P.length (P.length + 1 + M.length) = P ++ y :: (M ++ x :: Q) := by
  have e1 : (P ++ x :: (M ++ y :: Q))[P.length]? = some x := by rw [List.getElem?_append_right (Nat.le_refl _), Nat.sub_self]; rfl
  have e2 : (P ++ x :: (M ++ y :: Q))[P.length + 1 + M.length]? = some y := by
    rw [List.getElem?_append_right (by omega), show P.length + 1 + M.length - P.length = M.length + 1 by omega, List.getElem?_cons_succ, List.getElem?_append_right (Nat.le_refl _), Nat.sub_self]
    rfl
  rw [sw_is e1 e2, List.set_append_right _ _ (Nat.le_refl _), Nat.sub_self, List.set_cons_zero, List.set_append_right _ _ (by omega), show P.length + 1 + M.length - P.length = M.length + 1 by omega, List.set_cons_succ, List.set_append_right _ _ (Nat.le_refl _), Nat.sub_self, List.set_cons_zero]
theorem swr_parts : ∀ (X Y P M Q : List Bn), X.length = Y.length → swr (P ++ (X ++ (M ++ (Y ++ Q)))) P.length (P.length + X.length + M.length) X.length = P ++ (Y ++ (M ++ (X ++ Q)))
  | [], [], P, M, Q, _ => rfl
  | [], y :: Y, _, _, _, h => by simp at h
  | x :: X, [], _, _, _, h => by simp at h
  | x :: X, y :: Y, P, M, Q, h => by
    have h : X.length = Y.length := by simpa using h
    have e := sw_parts P (X ++ M) (Y ++ Q) x y
    have ih := swr_parts X Y (P ++ [y]) (M ++ [x]) Q h
    simp only [List.length_append, List.length_cons, List.length_nil, List.append_assoc, List.cons_append, List.nil_append, Nat.zero_add] at e ih ⊢
    rw [swr]
    rw [show P.length + (X.length + 1) + M.length = P.length + 1 + (X.length + M.length) by omega, e]
    rw [show P.length + 1 + (X.length + M.length) + 1 = P.length + 1 + X.length + (M.length + 1) by omega]
    exact ih
end Pz
/-- what a call of the sort's may do: the row is another one, all that lies below stays -/
structure Rs (B : Nat) (A : Option Addr) (N c : Nat) (d : List Bn) (w W : World) : Prop where
  own : OwnB W B (.slice A N c) d
  len : d.length = N
  bel : Below B w W
theorem Rs.grown {B : Nat} {A : Option Addr} {N c : Nat} {d : List Bn} {w W W2 : World} (h : Rs B A N c d w W) (hB : B ≤ W.heap.size) (hb : Below W.heap.size W W2) : Rs B A N c d w W2 :=
  ⟨h.own.below hb, h.len, h.bel.trans (hb.mono hB)⟩
theorem Rs.again {B : Nat} {A : Option Addr} {N c : Nat} {d d2 : List Bn} {w W W2 : World} (h : Rs B A N c d w W) (h2 : Rs B A N c d2 W W2) : Rs B A N c d2 w W2 := ⟨h2.own, h2.len, h.bel.trans h2.bel⟩
theorem Rs.room {B : Nat} {A : Option Addr} {N c : Nat} {d : List Bn} {w W : World} (h : Rs B A N c d w W) {k : Nat} (hk : k < N) : B < W.heap.size := by
  have hk' : k < d.length := by rw [h.len]; exact hk
  have ho := h.own
  rw [← h.len] at ho
  obtain ⟨g, o, c', e, h1, h2, _⟩ := ho.at_ (List.getElem?_eq_getElem hk')
  omega
/-- one entity is read -/
theorem Rs.get {B : Nat} {A : Option Addr} {N c : Nat} {d : List Bn} {w W : World} (h : Rs B A N c d w W) {k : Nat} {x : Bn} (hk : d[k]? = some x) :
    ∃ g o, A = some ⟨g, o, none⟩ ∧ ∀ p : Lat grows W, (p.W.cell? ⟨g, o + k * 11, none⟩ = some (.int .i64 x.s) ∧ p.W.cell? ⟨g, o + k * 11 + 1, none⟩ = some (.int .i64 x.i) ∧ p.W.cell? ⟨g, o + k * 11 + 2, none⟩ = some (.int .i64 x.g) ∧ p.W.cell? ⟨g, o + k * 11 + 3, none⟩ = some (.int .i64 x.m) ∧ p.W.cell? ⟨g, o + k * 11 + 4, none⟩ = some (.int .i64 x.x) ∧ p.W.cell? ⟨g, o + k * 11 + 5, none⟩ = some (.int .i64 x.y) ∧ p.W.cell? ⟨g, o + k * 11 + 6, none⟩ = some (.int .i64 x.vx) ∧ p.W.cell? ⟨g, o + k * 11 + 7, none⟩ = some (.int .i64 x.vy) ∧ p.W.cell? ⟨g, o + k * 11 + 8, none⟩ = some (.int .i64 x.h) ∧ p.W.cell? ⟨g, o + k * 11 + 9, none⟩ = some (.int .i64 x.p) ∧ p.W.cell? ⟨g, o + k * 11 + 10, none⟩ = some (.int .i64 x.l)) := by
  have ho := h.own
  rw [← h.len] at ho
  obtain ⟨g, o, e, hB, hc, hf⟩ := own_at ho hk
  refine ⟨g, o, e, fun p => ?_⟩
  have R := RdB.of_own ho
  obtain ⟨g', o', e', _, hc'⟩ := (R.below (lat_below p)) k x hk
  rw [e] at e'
  cases e'
  exact hc'
/-- one entity is put -/
theorem Rs.put {B : Nat} {A : Option Addr} {N c : Nat} {d : List Bn} {w W : World} (h : Rs B A N c d w W) {k : Nat} (hk : k < N) (x : Bn) :
    ∃ g o, A = some ⟨g, o, none⟩ ∧ (∃ y : Bn, (W.cell? ⟨g, o + k * 11, none⟩ = some (.int .i64 y.s) ∧ W.cell? ⟨g, o + k * 11 + 1, none⟩ = some (.int .i64 y.i) ∧ W.cell? ⟨g, o + k * 11 + 2, none⟩ = some (.int .i64 y.g) ∧ W.cell? ⟨g, o + k * 11 + 3, none⟩ = some (.int .i64 y.m) ∧ W.cell? ⟨g, o + k * 11 + 4, none⟩ = some (.int .i64 y.x) ∧ W.cell? ⟨g, o + k * 11 + 5, none⟩ = some (.int .i64 y.y) ∧ W.cell? ⟨g, o + k * 11 + 6, none⟩ = some (.int .i64 y.vx) ∧ W.cell? ⟨g, o + k * 11 + 7, none⟩ = some (.int .i64 y.vy) ∧ W.cell? ⟨g, o + k * 11 + 8, none⟩ = some (.int .i64 y.h) ∧ W.cell? ⟨g, o + k * 11 + 9, none⟩ = some (.int .i64 y.p) ∧ W.cell? ⟨g, o + k * 11 + 10, none⟩ = some (.int .i64 y.l))) ∧ (W.frozen? ⟨g, o + k * 11, none⟩ = false ∧ W.frozen? ⟨g, o + k * 11 + 1, none⟩ = false ∧ W.frozen? ⟨g, o + k * 11 + 2, none⟩ = false ∧ W.frozen? ⟨g, o + k * 11 + 3, none⟩ = false ∧ W.frozen? ⟨g, o + k * 11 + 4, none⟩ = false ∧ W.frozen? ⟨g, o + k * 11 + 5, none⟩ = false ∧ W.frozen? ⟨g, o + k * 11 + 6, none⟩ = false ∧ W.frozen? ⟨g, o + k * 11 + 7, none⟩ = false ∧ W.frozen? ⟨g, o + k * 11 + 8, none⟩ = false ∧ W.frozen? ⟨g, o + k * 11 + 9, none⟩ = false ∧ W.frozen? ⟨g, o + k * 11 + 10, none⟩ = false) ∧ Hid (Rs B A N c (d.set k x) w (((((((((((W.setCell ⟨g, o + k * 11, none⟩ (.int .i64 x.s)).setCell ⟨g, o + k * 11 + 1, none⟩ (.int .i64 x.i)).setCell ⟨g, o + k * 11 + 2, none⟩ (.int .i64 x.g)).setCell ⟨g, o + k * 11 + 3, none⟩ (.int .i64 x.m)).setCell ⟨g, o + k * 11 + 4, none⟩ (.int .i64 x.x)).setCell ⟨g, o + k * 11 + 5, none⟩ (.int .i64 x.y)).setCell ⟨g, o + k * 11 + 6, none⟩ (.int .i64 x.vx)).setCell ⟨g, o + k * 11 + 7, none⟩ (.int .i64 x.vy)).setCell ⟨g, o + k * 11 + 8, none⟩ (.int .i64 x.h)).setCell ⟨g, o + k * 11 + 9, none⟩ (.int .i64 x.p)).setCell ⟨g, o + k * 11 + 10, none⟩ (.int .i64 x.l))) := by
  obtain ⟨g, o, e, ⟨y, _, hy⟩, hf, hp⟩ := row_put h.own h.len hk x
  subst e
  exact ⟨g, o, rfl, ⟨y, hy⟩, hf, Lib.hid ⟨hp.out.1, by rw [List.length_set]; exact h.len, h.bel.trans hp.out.2⟩⟩
set_option maxHeartbeats 16000000 in
set_option maxRecDepth 100000 in
theorem swaprange_any {B : Nat} {A : Option Addr} {N c : Nat} {d : List Bn} {w : World} (h : Rs B A N c d w w) (hN : N ≤ 1000000) (a b m : Nat) (ha : a + m ≤ b) (hb : b + m ≤ N) :
    Calls Tryz.prog 130 #[.slice A N c, .int .i64 (a : Int), .int .i64 (b : Int), .int .i64 (m : Int), .func (.func fn) #[] cap] w fun e w' => e = .returned (.tuple #[]) ∧ Rs B A N c (swr d a b m) w w' := by
  have H0 := Lib.hid h
  obtain ⟨D, hD⟩ : ∃ D, D = swr d a b m := ⟨_, rfl⟩
  rw [← hD]
  have D0 : Hid (swr d (a + 0) (b + 0) (m - 0) = D) := Lib.hid hD.symm
  clear hD
  go_enter Tryz.func130, Tryz.ntmps130
  go_wp2
  go_loopw [10] (fun ix wr => ∃ (k : Nat) (R : List Bn), k ≤ m ∧ ix = .int .i64 k ∧ Hid (Rs B A N c R w wr) ∧ Hid (swr R (a + k) (b + k) (m - k) = D)) (fun ix _ => m - (intOf ix).toNat)
  case atStart => exact ⟨0, d, Nat.zero_le _, rfl, H0, D0⟩
  case round =>
    obtain ⟨k, R, hk, rfl, HR, HD⟩ := hrel
    clear H0 D0 h
    by_cases hkm : k < m
    · have t1 : (k : Int) < (m : Int) := by omega
      obtain ⟨ia, hia⟩ : ∃ i, i = a + k := ⟨_, rfl⟩
      obtain ⟨ib, hib⟩ : ∃ i, i = b + k := ⟨_, rfl⟩
      have wa : IntKind.i64.wrap ((a : Int) + (k : Int)) = (ia : Int) := by rw [IntWalk.i64_in _ (by omega)]; omega
      have wb : IntKind.i64.wrap ((b : Int) + (k : Int)) = (ib : Int) := by rw [IntWalk.i64_in _ (by omega)]; omega
      have la : (ia : Int) < (N : Int) := by omega
      have lb : (ib : Int) < (N : Int) := by omega
      have hlen := HR.out.len
      obtain ⟨x, hx⟩ : ∃ x, R[ia]? = some x := ⟨_, List.getElem?_eq_getElem (by omega)⟩
      obtain ⟨y, hy⟩ : ∃ y, R[ib]? = some y := ⟨_, List.getElem?_eq_getElem (by omega)⟩
      have ND : Hid (swr ((R.set ia y).set ib x) (a + (k + 1)) (b + (k + 1)) (m - (k + 1)) = D) := Lib.hid (by
        have := HD.out
        rw [show m - k = (m - (k + 1)) + 1 by omega, swr, ← hia, ← hib, sw_is hx hy] at this
        rw [show a + (k + 1) = ia + 1 by omega, show b + (k + 1) = ib + 1 by omega]
        exact this)
      obtain ⟨g, o, rfl, px⟩ := HR.out.get hx
      obtain ⟨g', o', e, py⟩ := HR.out.get hy
      cases e
      have hroom := HR.out.room (k := ia) (by omega)
      replace hia := Lib.hid hia
      replace hib := Lib.hid hib
      clear HD hx hy hlen
      obtain ⟨xs, xi, xg, xm, xx, xy, xvx, xvy, xh, xp, xl⟩ := x
      obtain ⟨ys, yi, yg, ym, yx, yy, yvx, yvy, yh, yp, yl⟩ := y
      simp only at px py
      have c0 := (px ⟨wr.drew, Below.d' (Below.refl _ _)⟩).1
      have e0 := (py ⟨wr.drew, Below.d' (Below.refl _ _)⟩).1
      have c1 := (px ⟨wr.drew, Below.d' (Below.refl _ _)⟩).2.1
      have e1 := (py ⟨wr.drew, Below.d' (Below.refl _ _)⟩).2.1
      have c2 := (px ⟨wr.drew, Below.d' (Below.refl _ _)⟩).2.2.1
      have e2 := (py ⟨wr.drew, Below.d' (Below.refl _ _)⟩).2.2.1
      have c3 := (px ⟨wr.drew, Below.d' (Below.refl _ _)⟩).2.2.2.1
      have e3 := (py ⟨wr.drew, Below.d' (Below.refl _ _)⟩).2.2.2.1
      have c4 := (px ⟨wr.drew, Below.d' (Below.refl _ _)⟩).2.2.2.2.1
      have e4 := (py ⟨wr.drew, Below.d' (Below.refl _ _)⟩).2.2.2.2.1
      have c5 := (px ⟨wr.drew, Below.d' (Below.refl _ _)⟩).2.2.2.2.2.1
      have e5 := (py ⟨wr.drew, Below.d' (Below.refl _ _)⟩).2.2.2.2.2.1
      have c6 := (px ⟨wr.drew, Below.d' (Below.refl _ _)⟩).2.2.2.2.2.2.1
      have e6 := (py ⟨wr.drew, Below.d' (Below.refl _ _)⟩).2.2.2.2.2.2.1
      have c7 := (px ⟨wr.drew, Below.d' (Below.refl _ _)⟩).2.2.2.2.2.2.2.1
      have e7 := (py ⟨wr.drew, Below.d' (Below.refl _ _)⟩).2.2.2.2.2.2.2.1
      have c8 := (px ⟨wr.drew, Below.d' (Below.refl _ _)⟩).2.2.2.2.2.2.2.2.1
      have e8 := (py ⟨wr.drew, Below.d' (Below.refl _ _)⟩).2.2.2.2.2.2.2.2.1
      have c9 := (px ⟨wr.drew, Below.d' (Below.refl _ _)⟩).2.2.2.2.2.2.2.2.2.1
      have e9 := (py ⟨wr.drew, Below.d' (Below.refl _ _)⟩).2.2.2.2.2.2.2.2.2.1
      have c10 := (px ⟨wr.drew, Below.d' (Below.refl _ _)⟩).2.2.2.2.2.2.2.2.2.2
      have e10 := (py ⟨wr.drew, Below.d' (Below.refl _ _)⟩).2.2.2.2.2.2.2.2.2.2
      clear px py
      simp only at c0 c1 c2 c3 c4 c5 c6 c7 c8 c9 c10 e0 e1 e2 e3 e4 e5 e6 e7 e8 e9 e10
      go_upto_region 3 with fail
      obtain ⟨g', o', e, ⟨q9, z0, z1, z2, z3, z4, z5, z6, z7, z8, z9, z10⟩, ⟨y0, y1, y2, y3, y4, y5, y6, y7, y8, y9, y10⟩, HP⟩ := HR.out.put (k := ia) (by have := hia.out; omega) ⟨ys, yi, yg, ym, yx, yy, yvx, yvy, yh, yp, yl⟩
      cases e
      clear HR
      simp only at HP
      obtain ⟨g', o', e, ⟨q2, p0, p1, p2, p3, p4, p5, p6, p7, p8, p9, p10⟩, ⟨h0, h1, h2, h3, h4, h5, h6, h7, h8, h9, h10⟩, HP2⟩ := HP.out.put (k := ib) (by have := hib.out; omega) ⟨xs, xi, xg, xm, xx, xy, xvx, xvy, xh, xp, xl⟩
      cases e
      clear HP
      simp only at HP2
      go_big_region
      clear c0 c1 c2 c3 c4 c5 c6 c7 c8 c9 c10 e0 e1 e2 e3 e4 e5 e6 e7 e8 e9 e10 z0 z1 z2 z3 z4 z5 z6 z7 z8 z9 z10 y0 y1 y2 y3 y4 y5 y6 y7 y8 y9 y10 p0 p1 p2 p3 p4 p5 p6 p7 p8 p9 p10 h0 h1 h2 h3 h4 h5 h6 h7 h8 h9 h10
      have HP3 := Lib.hid (HP2.out.grown (by have := HP2.out.room (k := ia) (by have := hia.out; omega); omega) (Below.d' (Below.refl _ _)))
      clear HP2
      go_wp2
      go_roundw
      case rel => exact ⟨k + 1, _, by omega, by go_num, HP3, ND⟩
      case measure => simp [intOf]; omega
    · have e : k = m := by omega
      subst e
      have t1 : ¬ (k : Int) < (k : Int) := by omega
      have e2 : R = D := by have := HD.out; rw [Nat.sub_self] at this; exact this
      subst e2
      clear HD
      go_wp2
      go_end0
      exact ⟨rfl, HR.out⟩
end Go.Proofs.YtljaahemlcaffaaGreat
