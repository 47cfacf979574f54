/- The code: whoever has no power is struck from a row. Written by wip/tools/gensy.py. The code: withPower, taken. Written by wip/tools/gensy.py. The code's taken. Written by wip/tools/gensy.py. The document's Hits. Written by wip/tools/gensy.py. -/
import Derived.Test.YtljaahemlcaffaaGreatK26
import Derived.Test.YtljaahemlcaffaaGreatK20
import Derived.Lib.SliceRun
import Derived.Test.YtljaahemlcaffaaGreatK18
namespace Go.Proofs.YtljaahemlcaffaaGreat
open Go.RowKit Pz Sp
set_option linter.unusedVariables false
set_option linter.unusedSimpArgs false

abbrev pw (x : Bn) : Bool := bitB x.m 3
theorem em_pw : ∀ args w, (callFunc 92 args).run Tryz.prog w = .ok (.enter 92 args) w := enters_of Tryz.func92 (by kernel_rfl) rfl
set_option maxHeartbeats 4000000 in
set_option maxRecDepth 100000 in
theorem pw_any (x : Bn) (w : World) : Calls Tryz.prog 92 #[x.val] w fun e w' => e = .returned (.bool (!pw x)) ∧ Below w.heap.size w w' := by
  have BX : Hid (∀ W, Calls Tryz.prog 68 #[x.val, .int .i64 8] W fun e w' => e = .returned (.bool (pw x)) ∧ Below W.heap.size W w') := Lib.hid fun W => has_one x (j := 3) (by decide) W
  generalize pw x = r at *
  obtain ⟨xs, xi, xg, xm, xx, xy, xvx, xvy, xh, xp, xl⟩ := x
  simp only [Bn.val] at *
  have HB := Lib.hid (bel1 w (.cells #[.int .i64 xs, .int .i64 xi, .int .i64 xg, .int .i64 xm, .int .i64 xx, .int .i64 xy, .int .i64 xvx, .int .i64 xvy, .int .i64 xh, .int .i64 xp, .int .i64 xl] 42))
  obtain ⟨⟨k0, k1, k2, k3, k4, k5, k6, k7, k8, k9, k10⟩, _⟩ := Bx.b11 (at1 w (.cells #[.int .i64 xs, .int .i64 xi, .int .i64 xg, .int .i64 xm, .int .i64 xx, .int .i64 xy, .int .i64 xvx, .int .i64 xvy, .int .i64 xh, .int .i64 xp, .int .i64 xl] 42))
  go_enter Tryz.func92, Tryz.ntmps92
  go_upto_region 1 with fail
  generalize w.alloc (.cells #[.int .i64 xs, .int .i64 xi, .int .i64 xg, .int .i64 xm, .int .i64 xx, .int .i64 xy, .int .i64 xvx, .int .i64 xvy, .int .i64 xh, .int .i64 xp, .int .i64 xl] 42) = w1 at *
  go_wp2_with (go_at_call 68; with_reducible refine (BX.out _).mono ?_; rintro e w2 ⟨rfl, b2⟩; replace HB := Lib.hid (HB.out.trans (b2.mono HB.out.size)); clear k0 k1 k2 k3 k4 k5 k6 k7 k8 k9 k10 b2 BX)
  go_ret
  exact ⟨rfl, HB.out⟩
set_option maxHeartbeats 16000000 in
set_option maxRecDepth 100000 in
theorem ix_any {w : World} {A : Option Addr} {cap : Nat} {l : List Bn} (R : RdB w w.heap.size A l) (hl : l.length ≤ 2000) (v : Int) (hv : (v = -1 ∧ ∀ x ∈ l, pw x = true) ∨ ∃ (k : Nat) (hk : k < l.length), v = k ∧ (∀ x ∈ l.take k, pw x = true) ∧ pw l[k] = false) :
    Calls Tryz.prog 108 #[.slice A l.length cap, .func (.func 92) #[] #[]] w fun e w' => e = .returned (.int .i64 v) ∧ Below w.heap.size w w' := by
  have EG := em_pw
  have AT := Lib.hid fun W (hW : Below w.heap.size w W) => R.below hW
  have CL : Hid (∀ W x, Calls Tryz.prog 92 #[x.val] W fun e w' => e = .returned (.bool (!pw x)) ∧ Below W.heap.size W w') := Lib.hid fun W x => pw_any x W
  have HV := Lib.hid hv
  clear R hv
  go_enter Tryz.func108, Tryz.ntmps108
  go_wp2
  go_loopw [8] (fun ix wr => ∃ k : Nat, k ≤ l.length ∧ ix = .int .i64 k ∧ Hid (Below w.heap.size w wr) ∧ Hid (∀ x ∈ l.take k, pw x = true)) (fun ix _ => l.length - (intOf ix).toNat)
  case atStart => exact ⟨0, Nat.zero_le _, rfl, Lib.hid (Below.refl _ _), Lib.hid (by simp)⟩
  case round =>
    obtain ⟨k, hk, rfl, HB, HI⟩ := hrel
    by_cases hkl : k < l.length
    · have t1 : (k : Int) < (l.length : Int) := by omega
      obtain ⟨g, o, rfl, _, c0, c1, c2, c3, c4, c5, c6, c7, c8, c9, c10⟩ := AT.out wr HB.out k _ (List.getElem?_eq_getElem hkl)
      have FF := Lib.hid (CL.out wr l[k])
      have NX : Hid (pw l[k] = true → ∀ x ∈ l.take (k + 1), pw x = true) := Lib.hid fun h x hx => by
        rw [List.take_succ_eq_append_getElem hkl, List.mem_append] at hx
        rcases hx with hx | hx
        · exact HI.out x hx
        · rw [List.mem_singleton.1 hx]; exact h
      have ND : Hid (pw l[k] = false → v = k) := Lib.hid fun h => by
        rcases HV.out with ⟨_, h1⟩ | ⟨k2, hk2, rfl, h1, h2⟩
        · rw [h1 _ (List.getElem_mem hkl)] at h
          cases h
        · rcases Nat.lt_trichotomy k2 k with h3 | h3 | h3
          · have := HI.out l[k2] (List.mem_take_iff_getElem.2 ⟨k2, by omega, rfl⟩)
            rw [this] at h2
            cases h2
          · rw [h3]
          · have := h1 l[k] (List.mem_take_iff_getElem.2 ⟨k, by omega, rfl⟩)
            rw [this] at h
            cases h
      clear AT CL HI HV
      generalize hx : l[k] = x at *
      clear hx
      generalize hr : pw x = r at *
      clear hr
      obtain ⟨xs, xi, xg, xm, xx, xy, xvx, xvy, xh, xp, xl⟩ := x
      simp only [Bn.val] at *
      generalize hn : l.length = n at *
      cases r with
      | true =>
        replace NX := Lib.hid (NX.out rfl)
        clear ND
        go_wp2_with (go_at_call 92; with_reducible refine (FF.out).mono ?_; rintro e w' ⟨rfl, hb2⟩; replace HB := Lib.hid (HB.out.trans (hb2.mono HB.out.size)); clear hb2 FF c0 c1 c2 c3 c4 c5 c6 c7 c8 c9 c10)
        go_roundw
        case rel => exact ⟨k + 1, by omega, by go_num, HB, NX⟩
        case measure => simp [intOf]; omega
      | false =>
        replace ND := Lib.hid (ND.out rfl)
        clear NX
        go_wp2_with (go_at_call 92; with_reducible refine (FF.out).mono ?_; rintro e w' ⟨rfl, hb2⟩; replace HB := Lib.hid (HB.out.trans (hb2.mono HB.out.size)); clear hb2 FF c0 c1 c2 c3 c4 c5 c6 c7 c8 c9 c10)
        go_ret
        rw [ND.out]
        exact ⟨rfl, HB.out⟩
    · have t1 : ¬ (k : Int) < (l.length : Int) := by omega
      have E1 : Hid (v = -1) := Lib.hid (by
        rcases HV.out with ⟨h1, _⟩ | ⟨k2, hk2, rfl, h1, h2⟩
        · exact h1
        · have := HI.out l[k2] (by rw [List.take_of_length_le (by omega)]; exact List.getElem_mem hk2)
          rw [this] at h2
          cases h2)
      clear AT CL HI HV
      generalize l.length = n at *
      go_wp2
      go_ret
      rw [E1.out]
      exact ⟨rfl, HB.out⟩
theorem zero11 (n : Nat) : (Builtin.zeroCells (Value.cells (.agg #[.int .i64 0, .int .i64 0, .int .i64 0, .int .i64 0, .int .i64 0, .int .i64 0, .int .i64 0, .int .i64 0, .int .i64 0, .int .i64 0, .int .i64 0])) n).toList = List.replicate (n * 11) (.int .i64 0) := by
  apply List.ext_getElem
  · rw [Array.length_toList, size_zeroCells]
    simp [Value.cells]
  · intro i h1 h2
    have h3 : i % 11 < 11 := Nat.mod_lt _ (by decide)
    simp only [Builtin.zeroCells, Array.getElem_toList, Array.getElem_map, Array.getElem_range, List.getElem_replicate]
    show (#[Value.int .i64 0, .int .i64 0, .int .i64 0, .int .i64 0, .int .i64 0, .int .i64 0, .int .i64 0, .int .i64 0, .int .i64 0, .int .i64 0, .int .i64 0] : Array Value)[i % 11]! = _
    have : i % 11 = 0 ∨ i % 11 = 1 ∨ i % 11 = 2 ∨ i % 11 = 3 ∨ i % 11 = 4 ∨ i % 11 = 5 ∨ i % 11 = 6 ∨ i % 11 = 7 ∨ i % 11 = 8 ∨ i % 11 = 9 ∨ i % 11 = 10 := by omega
    rcases this with h | h | h | h | h | h | h | h | h | h | h <;> rw [h] <;> rfl
/-- a row of one's own is cleared behind its first ones -/
theorem own_clear {W : World} {B g o n c i : Nat} {R : List Bn} (h : OwnB W B (.slice (some ⟨g, o, none⟩) n c) R) (hn : R.length = n) (hi : i < n) :
    ∃ V, (∀ ty, (Builtin.clear_ #[24] ty #[.slice (some ⟨g, o + i * 11, none⟩) (n - i) (c - i)]).run Tryz.prog W = .ok (.tuple #[]) V) ∧ OwnB V B (.slice (some ⟨g, o, none⟩) i c) (R.take i) ∧ Below B W V := by
  subst hn
  rcases h with ⟨e, _⟩ | ⟨g', o', cap, cur, e, h1, h2, h3, h4, h5, h6⟩
  · cases e
  · cases e
    obtain ⟨inf, hinf, hz, e2, e3⟩ := info_parts bundle_info
    have hcell : ∀ j, j < (List.replicate ((R.length - i) * 11) (Value.int .i64 0)).length → (W.cell? ⟨g, o + i * 11 + j, none⟩).isSome = true ∧ W.frozen? ⟨g, o + i * 11 + j, none⟩ = false := fun j hj => by
      rw [List.length_replicate] at hj
      have hx : o + i * 11 + j < cur.size := by omega
      simp [World.cell?, World.frozen?, h2, hx]
    have hst := run_storeCells_cells (P := Tryz.prog) g (o + i * 11) (List.replicate ((R.length - i) * 11) (Value.int .i64 0)) 0 W (fun j hj => by simpa using (hcell j hj).1) (fun j hj => by simpa using (hcell j hj).2) (by intro v hv; rw [List.eq_of_mem_replicate hv]; rfl)
    simp only [Nat.add_zero] at hst
    obtain ⟨cur', q1, q2, q3, _⟩ := setCells_same g (T := 42) (List.replicate ((R.length - i) * 11) (Value.int .i64 0)) (o + i * 11) W cur h2
    obtain ⟨s1, s2, s3, s4⟩ := setCells_size g (List.replicate ((R.length - i) * 11) (Value.int .i64 0)) (o + i * 11) W
    refine ⟨W.setCells g (o + i * 11) (List.replicate ((R.length - i) * 11) (.int .i64 0)), fun ty => ?_, .inr ⟨g, o, c, cur', by rw [List.length_take, Nat.min_eq_left (by omega)], h1, q1, by rw [List.length_take]; omega, h4, by rw [q2]; exact h5, fun j x hj c2 u hu => ?_⟩, ⟨s2, s3, s4, by rw [s1]; exact Nat.le_refl _, fun k hk => setCells_other g _ _ _ k (by omega)⟩⟩
    · obtain ⟨m, hm⟩ : ∃ m, R.length - i = m + 1 := ⟨R.length - i - 1, by omega⟩
      rw [hm] at hst ⊢
      have hzv : ∀ V : World, (zeroValue 42).run Tryz.prog V = .ok (.agg #[.int .i64 0, .int .i64 0, .int .i64 0, .int .i64 0, .int .i64 0, .int .i64 0, .int .i64 0, .int .i64 0, .int .i64 0, .int .i64 0, .int .i64 0]) V := fun V => by simp [zeroValue, typeInfo, hinf, hz]
      simp [Builtin.clear_, run_underlying Tryz.underlying24, hzv, zero11, hst]
    · have hc : c2 < 11 := (List.getElem?_eq_some_iff.1 hu).1
      have hj2 : j < i := by
        have := (List.getElem?_eq_some_iff.1 hj).1
        rw [List.length_take] at this
        omega
      rw [List.getElem?_take, if_pos hj2] at hj
      rw [q3 _ (by omega)]
      exact h6 j x hj c2 u hu
namespace Pz
/-- the row while it is gone through: i are kept, the rest from j on is as it was -/
structure DelI (R l : List Bn) (i j : Nat) : Prop where
  len : R.length = l.length
  lo : R.take i = (l.take j).filter pw
  hi : R.drop j = l.drop j
theorem DelI.at_ {R l : List Bn} {i j : Nat} (h : DelI R l i j) {x : Bn} (hx : l[j]? = some x) : R[j]? = some x := by
  have e := congrArg (fun q => q[0]?) h.hi
  simp only [List.getElem?_drop, Nat.add_zero] at e
  rw [e, hx]
theorem DelI.next {R l : List Bn} {i j : Nat} (h : DelI R l i j) : R.drop (j + 1) = l.drop (j + 1) := by
  rw [← List.drop_drop, ← List.drop_drop, h.hi]
theorem DelI.skip {R l : List Bn} {i j : Nat} (h : DelI R l i j) (hj : j < l.length) (hp : pw l[j] = false) : DelI R l i (j + 1) :=
  ⟨h.len, by rw [h.lo, List.take_succ_eq_append_getElem hj, List.filter_append, List.filter_cons_of_neg (by rw [hp]; decide), List.filter_nil, List.append_nil], h.next⟩
theorem DelI.keep {R l : List Bn} {i j : Nat} (h : DelI R l i j) (hij : i < j) (hj : j < l.length) (hp : pw l[j] = true) : DelI (R.set i l[j]) l (i + 1) (j + 1) := by
  have hiR : i < R.length := by rw [h.len]; omega
  refine ⟨by rw [List.length_set, h.len], ?_, by rw [List.drop_set_of_lt (by omega), h.next]⟩
  rw [List.take_succ_eq_append_getElem (by rw [List.length_set]; exact hiR), List.take_set_of_le (Nat.le_refl _), List.getElem_set_self, h.lo, List.take_succ_eq_append_getElem hj, List.filter_append, List.filter_cons_of_pos hp, List.filter_nil]
theorem first_of (l : List Bn) : (∀ x ∈ l, pw x = true) ∨ ∃ (k : Nat) (hk : k < l.length), (∀ x ∈ l.take k, pw x = true) ∧ pw l[k] = false := by
  induction l with
  | nil => exact .inl fun x hx => by cases hx
  | cons a l ih =>
    cases ha : pw a with
    | false => exact .inr ⟨0, Nat.zero_lt_succ _, fun x hx => by simp at hx, ha⟩
    | true =>
      rcases ih with h | ⟨k, hk, h1, h2⟩
      · exact .inl fun x hx => by
          rcases List.mem_cons.1 hx with rfl | hx
          · exact ha
          · exact h x hx
      · refine .inr ⟨k + 1, Nat.succ_lt_succ hk, fun x hx => ?_, h2⟩
        rw [List.take_succ_cons] at hx
        rcases List.mem_cons.1 hx with rfl | hx
        · exact ha
        · exact h1 x hx
theorem DelI.start {l : List Bn} {k : Nat} (hk : k < l.length) (h1 : ∀ x ∈ l.take k, pw x = true) (h2 : pw l[k] = false) : DelI l l k (k + 1) :=
  ⟨rfl, by rw [List.take_succ_eq_append_getElem hk, List.filter_append, List.filter_eq_self.2 h1, List.filter_cons_of_neg (by rw [h2]; decide), List.filter_nil, List.append_nil], rfl⟩
end Pz
set_option maxHeartbeats 16000000 in
set_option maxRecDepth 100000 in
theorem del_any {w : World} {B : Nat} {A : Option Addr} {c : Nat} {l : List Bn} (h : OwnB w B (.slice A l.length c) l) (hB : B ≤ w.heap.size) (hl : l.length ≤ 2000) :
    Calls Tryz.prog 90 #[.slice A l.length c, .func (.func 92) #[] #[]] w fun e V => ∃ m c', e = .returned (.slice A m c') ∧ m = (l.filter pw).length ∧ OwnB V B (.slice A m c') (l.filter pw) ∧ Below B w V := by
  have EG := em_pw
  have CL : Hid (∀ W x, Calls Tryz.prog 92 #[x.val] W fun e w' => e = .returned (.bool (!pw x)) ∧ Below W.heap.size W w') := Lib.hid fun W x => pw_any x W
  have RDB : RdB w w.heap.size A l := RdB.of_own h
  rcases Pz.first_of l with hall | ⟨k, hk, h1, h2⟩
  · have IXC := Lib.hid (ix_any (cap := c) RDB hl (-1) (.inl ⟨rfl, hall⟩))
    have hf : l.filter pw = l := List.filter_eq_self.2 hall
    rw [hf]
    have HO := Lib.hid h
    clear h RDB hall hf CL
    generalize hn : l.length = n at *
    go_enter Tryz.func90, Tryz.ntmps90
    go_wp2_with (go_at_call 108; with_reducible refine IXC.out.mono ?_; rintro e w1 ⟨rfl, hb⟩; have HB := Lib.hid hb; clear hb IXC)
    go_ret
    exact ⟨n, c, rfl, rfl, HO.out.below HB.out, HB.out.mono hB⟩
  · have IXC := Lib.hid (ix_any (cap := c) RDB hl (k : Int) (.inr ⟨k, hk, rfl, h1, h2⟩))
    have I0 := Lib.hid (Pz.DelI.start hk h1 h2)
    have hnc : l.length ≤ c := by
      rcases h with ⟨e, e2⟩ | ⟨_, _, _, _, e, _, _, h3, _⟩
      · rw [e2] at hk
        simp at hk
      · cases e
        exact h3
    obtain ⟨g, o, rfl, hgB, hjunk⟩ := own_at h (List.getElem?_eq_getElem hk)
    clear hjunk
    have HO := Lib.hid h
    clear h RDB h1 h2
    have t0 : ((k : Int) == -1) = false := beq_eq_false_iff_ne.2 (by omega)
    have u0 : IntKind.i64.wrap ((k : Int) + 1) = (k : Int) + 1 := IntWalk.i64_in _ ⟨by omega, by omega⟩
    generalize hn : l.length = n at *
    go_enter Tryz.func90, Tryz.ntmps90
    go_wp2_with (go_at_call 108; with_reducible refine IXC.out.mono ?_; rintro e w1 ⟨rfl, hb⟩; have H1 := Lib.hid (HO.out.below hb); have B1 := Lib.hid (hb.mono hB); clear hb IXC HO)
    go_loopw [5, 6] (fun si sj wr => ∃ (i j : Nat) (R : List Bn), si = .int .i64 i ∧ sj = .int .i64 j ∧ i < j ∧ j ≤ n ∧ Hid (OwnB wr B (.slice (some ⟨g, o, none⟩) n c) R) ∧ Hid (Pz.DelI R l i j) ∧ Hid (Below B w wr)) (fun _ sj _ => n - (intOf sj).toNat)
    case atStart => exact ⟨k, k + 1, l, rfl, by go_num, by omega, by omega, H1, I0, B1⟩
    case round =>
      clear H1 B1 I0
      obtain ⟨i, j, R, rfl, rfl, hij, hjn, HO, HI, HB⟩ := hrel
      have hRn : R.length = n := HI.out.len.trans hn
      by_cases hlt : j < n
      · have q1 : (j : Int) < (n : Int) := by omega
        have q2 : (i : Int) < (n : Int) := by omega
        have hjl : j < l.length := by rw [hn]; exact hlt
        obtain ⟨x, hx⟩ : ∃ x, x = l[j] := ⟨_, rfl⟩
        have hRx : R[j]? = some x := by rw [hx]; exact HI.out.at_ (List.getElem?_eq_getElem hjl)
        have KEEP : Hid (pw x = true → Pz.DelI (R.set i x) l (i + 1) (j + 1)) := Lib.hid fun e => by rw [hx] at e ⊢; exact HI.out.keep hij hjl e
        have SKIP : Hid (pw x = false → Pz.DelI R l i (j + 1)) := Lib.hid fun e => by rw [hx] at e; exact HI.out.skip hjl e
        have HO' : OwnB wr B (.slice (some ⟨g, o, none⟩) R.length c) R := by rw [hRn]; exact HO.out
        obtain ⟨g', o', e, _, ⟨k0, k1, k2, k3, k4, k5, k6, k7, k8, k9, k10⟩, _⟩ := own_at HO' hRx
        cases e
        have FF := Lib.hid fun W => CL.out W x
        have hiN : i < n := by omega
        have PUT := Lib.hid fun (V : World) (hV : OwnB V B (.slice (some ⟨g, o, none⟩) n c) R) => row_put hV hRn hiN x
        clear HO' hx hRx HI CL hjl
        generalize hr : pw x = r at *
        clear hr
        obtain ⟨xs, xi, xg, xm, xx, xy, xvx, xvy, xh, xp, xl⟩ := x
        simp only [Bn.val] at *
        have T0 := at1 wr (.cells #[.int .i64 xs, .int .i64 xi, .int .i64 xg, .int .i64 xm, .int .i64 xx, .int .i64 xy, .int .i64 xvx, .int .i64 xvy, .int .i64 xh, .int .i64 xp, .int .i64 xl] 42)
        obtain ⟨⟨m0, m1, m2, m3, m4, m5, m6, m7, m8, m9, m10⟩, _⟩ := Bx.b11 T0
        have HN := Lib.hid (bel1 wr (.cells #[.int .i64 xs, .int .i64 xi, .int .i64 xg, .int .i64 xm, .int .i64 xx, .int .i64 xy, .int .i64 xvx, .int .i64 xvy, .int .i64 xh, .int .i64 xp, .int .i64 xl] 42))
        have HT := Lib.hid T0
        clear T0
        cases r with
        | true =>
          replace KEEP := Lib.hid (KEEP.out rfl)
          clear SKIP
          go_wp2_with (go_at_call 92; with_reducible refine (FF.out _).mono ?_; rintro e w2 ⟨rfl, b2⟩; clear FF k0 k1 k2 k3 k4 k5 k6 k7 k8 k9 k10 m0 m1 m2 m3 m4 m5 m6 m7 m8 m9 m10; obtain ⟨⟨m0, m1, m2, m3, m4, m5, m6, m7, m8, m9, m10⟩, _⟩ := Bx.b11 ((b2.block _ (Bx.lt HT.out)).trans HT.out); have H2 := Lib.hid ((HO.out.below HN.out).below b2); have B2 := Lib.hid ((HB.out.trans (HN.out.mono (Nat.le_trans hB HB.out.size))).trans (b2.mono (Nat.le_trans (Nat.le_trans hB HB.out.size) HN.out.size))); clear b2 HT HN; obtain ⟨g', o', e', ⟨y, _, ⟨y0, y1, y2, y3, y4, y5, y6, y7, y8, y9, y10⟩⟩, ⟨f0, f1, f2, f3, f4, f5, f6, f7, f8, f9, f10⟩, hnew⟩ := PUT.out _ H2.out; cases e'; clear PUT)
          go_roundw
          case rel => exact ⟨i + 1, j + 1, _, by go_num, by go_num, by omega, by omega, Lib.hid hnew.out.1, KEEP, Lib.hid (B2.out.trans hnew.out.2)⟩
          case measure => simp [intOf]; omega
        | false =>
          replace SKIP := Lib.hid (SKIP.out rfl)
          clear KEEP PUT
          go_wp2_with (go_at_call 92; with_reducible refine (FF.out _).mono ?_; rintro e w2 ⟨rfl, b2⟩; clear FF k0 k1 k2 k3 k4 k5 k6 k7 k8 k9 k10 m0 m1 m2 m3 m4 m5 m6 m7 m8 m9 m10; have H2 := Lib.hid ((HO.out.below HN.out).below b2); have B2 := Lib.hid ((HB.out.trans (HN.out.mono (Nat.le_trans hB HB.out.size))).trans (b2.mono (Nat.le_trans (Nat.le_trans hB HB.out.size) HN.out.size))); clear b2 HT HN)
          go_roundw
          case rel => exact ⟨i, j + 1, R, rfl, by go_num, by omega, by omega, H2, SKIP, B2⟩
          case measure => simp [intOf]; omega
      · have q1 : ¬ (j : Int) < (n : Int) := by omega
        have q3 : i ≤ n := by omega
        have hi2 : i < n := by omega
        obtain ⟨V, hcl, hO, hBl⟩ := own_clear HO.out hRn hi2
        have hlo : R.take i = l.filter pw := by rw [HI.out.lo, List.take_of_length_le (by omega)]
        rw [hlo] at hO
        have FIN := Lib.hid (show i = (l.filter pw).length ∧ OwnB V B (.slice (some ⟨g, o, none⟩) i c) (l.filter pw) ∧ Below B w V from ⟨by rw [← hlo, List.length_take]; omega, hO, HB.out.trans hBl⟩)
        clear hlo hO hBl HO HI HB CL
        go_wp2
        go_ret
        exact ⟨i, c, rfl, FIN.out.1, FIN.out.2.1, FIN.out.2.2⟩
end Go.Proofs.YtljaahemlcaffaaGreat
namespace Go.Proofs.YtljaahemlcaffaaGreat
open Go.RowKit Pz Sp
set_option linter.unusedVariables false
set_option linter.unusedSimpArgs false

theorem b_two (A A2 : Option Addr) (n c n2 c2 : Nat) (V : World) : (Instr.buildSlice 133 2 #[(0, .slice A n c), (1, .slice A2 n2 c2)]).run Tryz.prog V = .ok (.slice (some ⟨V.heap.size, 0, none⟩) 2 2) (V.alloc (.cells #[.slice A n c, .slice A2 n2 c2] 24)) := by kernel_rfl
set_option maxHeartbeats 4000000 in
set_option maxRecDepth 100000 in
theorem power_any {w : World} {A A2 : Option Addr} {c c2 : Nat} {own others : List Bn} (R : RdB w w.heap.size A own) (R2 : RdB w w.heap.size A2 others) (hl : own.length ≤ 1000) (hl2 : others.length ≤ 1000) :
    Calls Tryz.prog 67 #[.slice A own.length c, .slice A2 others.length c2] w fun e V => ∃ A' m c', e = .returned (.slice A' m c') ∧ m = ((own ++ others).filter pw).length ∧ OwnB V w.heap.size (.slice A' m c') ((own ++ others).filter pw) ∧ Below w.heap.size w V := by
  have B1 := bel1 w (.cells #[.slice A own.length c, .slice A2 others.length c2] 24)
  have CC := Lib.hid (concat_any (cz := 2) ((R.below B1).more B1.size) ((R2.below B1).more B1.size) hl hl2 (at1 w (.cells #[.slice A own.length c, .slice A2 others.length c2] 24)))
  have DD : Hid (∀ V A' c', Below w.heap.size w V → OwnB V w.heap.size (.slice A' (own.length + others.length) c') (own ++ others) → Calls Tryz.prog 90 #[.slice A' (own.length + others.length) c', .func (.func 92) #[] #[]] V fun e V' => ∃ m c', e = .returned (.slice A' m c') ∧ m = ((own ++ others).filter pw).length ∧ OwnB V' w.heap.size (.slice A' m c') ((own ++ others).filter pw) ∧ Below w.heap.size V V') := Lib.hid fun V A' c' hV ho => by
    have e : (own ++ others).length = own.length + others.length := List.length_append
    rw [← e] at ho ⊢
    exact del_any ho hV.size (by omega)
  have HB := Lib.hid B1
  have bt := fun V => b_two A A2 own.length c others.length c2 V
  clear R R2 B1
  generalize own.length = n1 at *
  generalize others.length = n2 at *
  generalize own ++ others = all at *
  go_enter Tryz.func67, Tryz.ntmps67
  go_wp2_with (first
    | (go_at_call 91; with_reducible refine CC.out.mono ?_; rintro e w1 ⟨A1, c1, rfl, ho, hb⟩; have D1 := Lib.hid (DD.out w1 A1 c1 (HB.out.trans (hb.mono (by simp))) (ho.base (by simp))); have H1 := Lib.hid (HB.out.trans (hb.mono (by simp))); clear CC DD ho hb HB)
    | (go_at_call 90; with_reducible refine D1.out.mono ?_; rintro e w2 ⟨m, c2', rfl, hm, ho, hb⟩; have FIN := Lib.hid (show m = (all.filter pw).length ∧ OwnB w2 w.heap.size (.slice A1 m c2') (all.filter pw) ∧ Below w.heap.size w w2 from ⟨hm, ho, H1.out.trans hb⟩); clear hm ho hb D1))
  go_ret
  exact ⟨A1, m, c2', rfl, FIN.out.1, FIN.out.2.1, FIN.out.2.2⟩
end Go.Proofs.YtljaahemlcaffaaGreat
namespace Go.Proofs.YtljaahemlcaffaaGreat
open Go.RowKit Pz Sp
set_option linter.unusedVariables false
set_option linter.unusedSimpArgs false

theorem b_ints (a b : Int) (V : World) : (Instr.buildSlice 60 2 #[(0, .int .i64 a), (1, .int .i64 b)]).run Tryz.prog V = .ok (.slice (some ⟨V.heap.size, 0, none⟩) 2 2) (V.alloc (.cells #[.int .i64 a, .int .i64 b] 3)) := by kernel_rfl
set_option maxHeartbeats 4000000 in
set_option maxRecDepth 100000 in
theorem ctaken_any {w : World} {A : Option Addr} {c : Nat} {l : List Bn} (R : RdB w w.heap.size A l) (hl : l.length ≤ 2000) (hP : ∀ x ∈ l, bitB x.m 3 = true) (qs qi qg qm qx qy qvx qvy qh qp ql r : Int) :
    Calls Tryz.prog 69 #[.int .i64 r, .agg #[.int .i64 qs, .int .i64 qi, .int .i64 qg, .int .i64 qm, .int .i64 qx, .int .i64 qy, .int .i64 qvx, .int .i64 qvy, .int .i64 qh, .int .i64 qp, .int .i64 ql], .slice A l.length c] w fun e w' => e = .returned (.int .i64 (Sy.takes ⟨qs, qi, qg, qm, qx, qy, qvx, qvy, qh, qp, ql⟩ r 0 l)) ∧ Below w.heap.size w w' := by
  have H0 : Hid (Sep w [box w.heap.size (.cells #[.int .i64 qs, .int .i64 qi, .int .i64 qg, .int .i64 qm, .int .i64 qx, .int .i64 qy, .int .i64 qvx, .int .i64 qvy, .int .i64 qh, .int .i64 qp, .int .i64 ql] 42)] (w.alloc (.cells #[.int .i64 qs, .int .i64 qi, .int .i64 qg, .int .i64 qm, .int .i64 qx, .int .i64 qy, .int .i64 qvx, .int .i64 qvy, .int .i64 qh, .int .i64 qp, .int .i64 ql] 42))) := Lib.hid (sep_box (sep_new w) _)
  have RD := Lib.hid fun V (hV : Below w.heap.size w V) => R.below hV
  have TB := Lib.hid fun j => Sy.takes_bd ⟨qs, qi, qg, qm, qx, qy, qvx, qvy, qh, qp, ql⟩ r (l.take j) 0 (by decide)
  have TS : Hid (∀ (j : Nat) (hj : j < l.length), Sy.takes ⟨qs, qi, qg, qm, qx, qy, qvx, qvy, qh, qp, ql⟩ r 0 (l.take (j + 1)) = if Sy.meets ⟨qs, qi, qg, qm, qx, qy, qvx, qvy, qh, qp, ql⟩ r l[j] then Rc.clamp (Sy.takes ⟨qs, qi, qg, qm, qx, qy, qvx, qvy, qh, qp, ql⟩ r 0 (l.take j) + Rc.clamp l[j].p) else Sy.takes ⟨qs, qi, qg, qm, qx, qy, qvx, qvy, qh, qp, ql⟩ r 0 (l.take j)) := Lib.hid fun j hj => Sy.takes_take 0 (List.getElem?_eq_getElem hj)
  have TE : Hid (Sy.takes ⟨qs, qi, qg, qm, qx, qy, qvx, qvy, qh, qp, ql⟩ r 0 (l.take l.length) = Sy.takes ⟨qs, qi, qg, qm, qx, qy, qvx, qvy, qh, qp, ql⟩ r 0 l) := Lib.hid (by rw [List.take_length])
  have TZ : Hid ((0 : Int) = Sy.takes ⟨qs, qi, qg, qm, qx, qy, qvx, qvy, qh, qp, ql⟩ r 0 (l.take 0)) := Lib.hid rfl
  have HPW := Lib.hid hP
  have hl6 : (l.length : Int) ≤ 2000 := by omega
  clear R hl hP
  go_enter Tryz.func69, Tryz.ntmps69
  go_upto_region 1 with fail
  generalize w.alloc (.cells #[.int .i64 qs, .int .i64 qi, .int .i64 qg, .int .i64 qm, .int .i64 qx, .int .i64 qy, .int .i64 qvx, .int .i64 qvy, .int .i64 qh, .int .i64 qp, .int .i64 ql] 42) = w0 at *
  go_wp2
  go_loopw [7, 12] (fun v i wr => ∃ j : Nat, j ≤ l.length ∧ v = .int .i64 (Sy.takes ⟨qs, qi, qg, qm, qx, qy, qvx, qvy, qh, qp, ql⟩ r 0 (l.take j)) ∧ i = .int .i64 j ∧ Hid (Sep w [box w.heap.size (.cells #[.int .i64 qs, .int .i64 qi, .int .i64 qg, .int .i64 qm, .int .i64 qx, .int .i64 qy, .int .i64 qvx, .int .i64 qvy, .int .i64 qh, .int .i64 qp, .int .i64 ql] 42)] wr)) (fun v i _ => l.length - (intOf i).toNat)
  case atStart => exact ⟨0, Nat.zero_le _, by rw [← TZ.out], rfl, H0⟩
  case round =>
    obtain ⟨j, hj, rfl, rfl, HP⟩ := hrel
    clear H0 TZ
    by_cases hjn : j < l.length
    · have q1 : (j : Int) < (l.length : Int) := by omega
      obtain ⟨g, o, rfl, _, KC⟩ := RD.out wr HP.out.bel j _ (List.getElem?_eq_getElem hjn)
      have HN : Hid (Sep w [box w.heap.size (.cells #[.int .i64 qs, .int .i64 qi, .int .i64 qg, .int .i64 qm, .int .i64 qx, .int .i64 qy, .int .i64 qvx, .int .i64 qvy, .int .i64 qh, .int .i64 qp, .int .i64 ql] 42)] (wr.alloc (.cells #[.int .i64 l[j].s, .int .i64 l[j].i, .int .i64 l[j].g, .int .i64 l[j].m, .int .i64 l[j].x, .int .i64 l[j].y, .int .i64 l[j].vx, .int .i64 l[j].vy, .int .i64 l[j].h, .int .i64 l[j].p, .int .i64 l[j].l] 42))) := Lib.hid (HP.out.below (bel1 wr _))
      have T1 := (Bx.b11 (at1 wr (.cells #[.int .i64 l[j].s, .int .i64 l[j].i, .int .i64 l[j].g, .int .i64 l[j].m, .int .i64 l[j].x, .int .i64 l[j].y, .int .i64 l[j].vx, .int .i64 l[j].vy, .int .i64 l[j].h, .int .i64 l[j].p, .int .i64 l[j].l] 42))).1
      have B1 := (Bx.b11 (HN.out.held 0 rfl)).1
      have FX := Lib.hid fun W => far_all qx qy l[j].x l[j].y W
      have hS1 := Lib.hid (TS.out j hjn)
      have bd := TB.out j
      have bc := Sy.clamp_bd l[j].p
      have hbit := HPW.out _ (List.getElem_mem hjn)
      have EQ := fun V => eq_id 9998 l[j].s l[j].i l[j].g qs qi qg V
      have hme : Sy.meets ⟨qs, qi, qg, qm, qx, qy, qvx, qvy, qh, qp, ql⟩ r l[j] = ((!((l[j].s == qs) && ((l[j].i == qi) && (l[j].g == qg))) && bitB l[j].m 3) && decide (Rc.far qx qy l[j].x l[j].y ≤ r)) := by
        unfold Sy.meets
        congr 2
        simp only [Bn.id, ne_eq, Prod.mk.injEq]
        rw [Bool.eq_iff_iff]
        simp
      rw [hme, hbit] at hS1
      clear hme hbit HPW RD TB TS TE HP
      obtain ⟨k0, k1, k2, k3, k4, k5, k6, k7, k8, k9, k10⟩ := KC
      obtain ⟨m0, m1, m2, m3, m4, m5, m6, m7, m8, m9, m10⟩ := T1
      obtain ⟨n0, n1, n2, n3, n4, n5, n6, n7, n8, n9, n10⟩ := B1
      generalize hSj : Sy.takes ⟨qs, qi, qg, qm, qx, qy, qvx, qvy, qh, qp, ql⟩ r 0 (l.take (j + 1)) = S1 at *
      generalize Sy.takes ⟨qs, qi, qg, qm, qx, qy, qvx, qvy, qh, qp, ql⟩ r 0 (l.take j) = S0 at *
      have AX : Hid (∀ W : World, Calls Tryz.prog 73 #[.slice (some ⟨W.heap.size, 0, none⟩) 2 2] (W.alloc (.cells #[.int .i64 S0, .int .i64 l[j].p] 3)) fun e w' => e = .returned (.int .i64 (Rc.clamp (S0 + Rc.clamp l[j].p))) ∧ W.alloc (.cells #[.int .i64 S0, .int .i64 l[j].p] 3) = w') := Lib.hid fun W => by
        have := add2_any S0 l[j].p W.heap.size 2 _ (at1 W (.cells #[.int .i64 S0, .int .i64 l[j].p] 3))
        rw [Rc.clamp_in bd.1 bd.2] at this
        exact this
      have bi := fun V => b_ints S0 l[j].p V
      generalize ((l[j].s == qs) && ((l[j].i == qi) && (l[j].g == qg))) = same at *
      generalize Rc.far qx qy l[j].x l[j].y = d at *
      generalize Rc.clamp l[j].p = cp at *
      generalize l[j].s = y0 at *
      generalize l[j].i = y1 at *
      generalize l[j].g = y2 at *
      generalize l[j].m = y3 at *
      generalize l[j].x = y4 at *
      generalize l[j].y = y5 at *
      generalize l[j].vx = y6 at *
      generalize l[j].vy = y7 at *
      generalize l[j].h = y8 at *
      generalize l[j].p = y9 at *
      generalize l[j].l = y10 at *
      simp at EQ
      go_upto_region 5 with fail
      clear k0 k1 k2 k3 k4 k5 k6 k7 k8 k9 k10
      generalize hw2 : wr.alloc (.cells #[.int .i64 y0, .int .i64 y1, .int .i64 y2, .int .i64 y3, .int .i64 y4, .int .i64 y5, .int .i64 y6, .int .i64 y7, .int .i64 y8, .int .i64 y9, .int .i64 y10] 42) = w2 at *
      clear hw2
      cases same with
      | true =>
        have hv : S1 = S0 := by have := hS1.out; simpa using this
        replace hSj := Lib.hid hSj
        clear hS1 FX AX
        have hS1 := Lib.hid (hSj.out.trans hv)
        go_wp2
        go_roundw
        case rel => exact ⟨j + 1, by omega, by rw [hS1.out], by go_num, HN⟩
        case measure => simp [intOf]; omega
      | false =>
        by_cases hd : d ≤ r
        · have hv : S1 = Rc.clamp (S0 + cp) := by have := hS1.out; simpa [hd] using this
          replace hSj := Lib.hid hSj
          clear hS1
          have hS1 := Lib.hid (hSj.out.trans hv)
          go_wp2_with (first
            | (go_at_call 48; refine (FX.out _).mono ?_; rintro e w5 ⟨rfl, rfl⟩; clear FX)
            | (go_at_call 73; refine (AX.out _).mono ?_; rintro e w6 ⟨rfl, rfl⟩; clear AX))
          go_roundw
          case rel => exact ⟨j + 1, by omega, by rw [hS1.out], by go_num, Lib.hid (HN.out.below (bel1 _ _))⟩
          case measure => simp [intOf]; omega
        · have hv : S1 = S0 := by have := hS1.out; simpa [hd] using this
          replace hSj := Lib.hid hSj
          clear hS1 AX
          have hS1 := Lib.hid (hSj.out.trans hv)
          go_wp2_with (first
            | (go_at_call 48; refine (FX.out _).mono ?_; rintro e w5 ⟨rfl, rfl⟩; clear FX))
          go_roundw
          case rel => exact ⟨j + 1, by omega, by rw [hS1.out], by go_num, HN⟩
          case measure => simp [intOf]; omega
    · obtain rfl : j = l.length := by omega
      have q1 : ¬ (l.length : Int) < (l.length : Int) := by omega
      have hb := Lib.hid HP.out.bel
      clear RD TB TS HP
      rw [TE.out]
      go_wp2
      go_ret
      exact ⟨rfl, hb.out⟩
end Go.Proofs.YtljaahemlcaffaaGreat
namespace Go.Proofs.YtljaahemlcaffaaGreat
open Go.RowKit Pz Sp
set_option linter.unusedVariables false
set_option linter.unusedSimpArgs false

theorem sort_len (κ : Bn → K3) (l : List Bn) : (sortL κ l).length = l.length := by rw [← sortP_all]; exact sortP_len l _ (Nat.le_refl _)
end Go.Proofs.YtljaahemlcaffaaGreat
