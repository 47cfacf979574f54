/- CdLay1, CdLay2, CdLay3, CdLay4, in one text. -/
import Derived.Test.YtdhlebmgeiiejaaGreatKNum
import Derived.Test.YtdhlebmgeiiejaaGreatKRdr
import Derived.Test.YtdhlebmgeiiejaaGreatKRef
import Derived.Test.YtdhlebmgeiiejaaGreatKPc
import Derived.Shelf.Abstract
namespace Go.Proofs.YtdhlebmgeiiejaaGreat
open Go.RowKit Go.Shelf Pz Cd
set_option linter.unusedVariables false
set_option linter.unusedSimpArgs false
attribute [local go_sem] Oper.semAt_some

theorem clay_many (l : List Int) (hl : l.length ≤ 100) (hi : I64 l) (W : World) : Calls Tryz.prog 54 #[.slice (some ⟨W.heap.size, 0, none⟩) l.length l.length] (W.alloc (.cells (ints l).toArray 3)) fun e w' => e = .returned (.string ⟨(Oct.encs l).toArray⟩) ∧ Below W.heap.size W w' := by
  have hb := bel1 W (.cells (ints l).toArray 3)
  refine (int_any (some ⟨W.heap.size, 0, none⟩) l.length l _ (by omega) hi ?_).mono ?_
  · intro h0
    refine ⟨W.heap.size, 0, rfl, by rw [size1]; omega, fun k v hv => ?_⟩
    rw [Nat.zero_add]
    exact (Bx.cell (at1 W _) (by simpa using hv)).1
  · rintro e w' ⟨rfl, h⟩
    exact ⟨rfl, hb.trans (h.mono hb.size)⟩
theorem encs_one (x : Int) : Oct.encs [x] = Oct.enc x := by
  have h := Oct.encs_snoc [] x
  simp only [List.nil_append] at h
  rw [h]
  simp [Oct.encs]
theorem encs_three (x y z : Int) : Oct.encs [x, y, z] = Oct.enc x ++ (Oct.enc y ++ Oct.enc z) := by
  have h1 := Oct.encs_snoc [x, y] z
  have h2 := Oct.encs_snoc [x] y
  simp only [List.cons_append, List.nil_append] at h1 h2
  rw [h1, h2, encs_one, List.append_assoc]
theorem clay1 (x : Int) (hx : FitN x) (W : World) : Calls Tryz.prog 54 #[.slice (some ⟨W.heap.size, 0, none⟩) 1 1] (W.alloc (.cells #[.int .i64 x] 3)) fun e w' => e = .returned (.string ⟨(Oct.enc x).toArray⟩) ∧ Below W.heap.size W w' := by
  have := clay_many [x] (by simp) (fun y hy => by rw [List.mem_singleton.1 hy]; exact hx) W
  rw [encs_one] at this
  exact this
theorem clay3 (x y z : Int) (hx : FitN x) (hy : FitN y) (hz : FitN z) (W : World) : Calls Tryz.prog 54 #[.slice (some ⟨W.heap.size, 0, none⟩) 3 3] (W.alloc (.cells #[.int .i64 x, .int .i64 y, .int .i64 z] 3)) fun e w' => e = .returned (.string ⟨(rawID (x, y, z)).toArray⟩) ∧ Below W.heap.size W w' := by
  have := clay_many [x, y, z] (by simp) (fun v hv => by
    simp only [List.mem_cons, List.not_mem_nil, or_false] at hv
    rcases hv with rfl | rfl | rfl
    · exact hx
    · exact hy
    · exact hz) W
  rw [encs_three] at this
  exact this
set_option maxHeartbeats 4000000 in
set_option maxRecDepth 100000 in
theorem clayid_any (s i g : Int) (hs : FitN s) (hi : FitN i) (hg : FitN g) (w : World) : Calls Tryz.prog 89 #[.agg #[.int .i64 s, .int .i64 i, .int .i64 g]] w fun e w' => e = .returned (.string ⟨(rawID (s, i, g)).toArray⟩) ∧ Below w.heap.size w w' := by
  have C := Lib.hid fun W => clay3 s i g hs hi hg W
  have T0 := at1 w (.cells #[.int .i64 s, .int .i64 i, .int .i64 g] 29)
  have BE := Lib.hid (bel1 w (.cells #[.int .i64 s, .int .i64 i, .int .i64 g] 29))
  obtain ⟨⟨k0, k1, k2⟩, _⟩ := Bx.b3 T0
  generalize rawID (s, i, g) = r at *
  clear T0 hs hi hg
  go_enter Tryz.func89, Tryz.ntmps89
  go_upto_region 1 with fail
  generalize w.alloc (.cells #[.int .i64 s, .int .i64 i, .int .i64 g] 29) = w1 at *
  go_wp2_with (go_at_call 54; with_reducible refine (C.out _).mono ?_; rintro e w2 ⟨rfl, b2⟩)
  go_ret
  exact ⟨rfl, BE.out.trans (b2.mono BE.out.size)⟩
/-- what an entity's box holds at a number's place -/
theorem bn_cell {W : World} {o : Nat} {b : Bn} (h : W.heap[o]? = some (.cells (bnA b) 34 (0, 0))) (f : Fld) : W.cell? ⟨o, f.off, none⟩ = some (.int .i64 (f.get b)) ∧ W.frozen? ⟨o, f.off, none⟩ = false := by
  cases f <;> exact Bx.cell h rfl
theorem bn_set {W : World} {o : Nat} {b : Bn} (h : W.heap[o]? = some (.cells (bnA b) 34 (0, 0))) (f : Fld) (v : Int) : (W.setCell ⟨o, f.off, none⟩ (.int .i64 v)).heap[o]? = some (.cells (bnA (f.set b v)) 34 (0, 0)) := by
  cases f <;> exact Bx.set h _
theorem cells_own {B k : Nat} {β : Type} {c : β → Array Value} {T : TypeId} : OwnFrom B (fun (s : β) W => W.heap[k]? = some (.cells (c s) T (0, 0))) := by
  intro s W W' row h hg hr
  refine (hg.block k (lt_of_row h) (fun e => ?_)).trans h
  obtain ⟨_, o, ho, hc⟩ := hr k e.symm
  have h : W.heap[k]? = some (.cells (c s) T (0, 0)) := h
  rw [h] at ho
  cases ho
  cases hc
theorem below_own {B : Nat} {β : Type} {w : World} {C : Nat} (hC : C ≤ B) (hw : C ≤ w.heap.size) : OwnFrom B (fun (_ : β) W => Below C w W) := by
  intro s W W' row h hg hr
  exact h.grown hg (Nat.le_trans hw h.size) (fun k e => Nat.le_trans hC (hr k e).1)
theorem KeepsFrom.below' {B : Nat} {W W' : World} (h : Below W.heap.size W W') : KeepsFrom B W W' := ⟨h.size, fun k o _ hk _ => (h.block k (lt_of_row hk)).trans hk⟩
end Go.Proofs.YtdhlebmgeiiejaaGreat
namespace Go.Proofs.YtdhlebmgeiiejaaGreat
open Go.RowKit Go.Shelf Pz Cd
set_option linter.unusedVariables false
set_option linter.unusedSimpArgs false
attribute [local go_sem] Oper.semAt_some

/-- how an entity's numbers are ranged over -/
theorem nums_stops (n : Nat) (hn : 1 ≤ n) (P Q o : Nat) (m : Int) (w : World) (h : NF P Q o m w) :
    SeqStopsK Fence.wide n Tryz.prog 125 #[.pointer (some ⟨P, 0, none⟩), .pointer (some ⟨Q, 0, none⟩)] (encF o) (fun W W' => NF P Q o m W → NF P Q o m W') (fun ys => ys = pl m 7) (fun _ => True) 7 w := fun l J Jx W hW hJ _ hY h0 => by
  refine (nums_run n hn l P Q o m J Jx (fun pre W1 W2 hj hb => hJ pre W1 W2 none hj ⟨hb.os, hb.tape, hb.output, hb.size, fun k hk _ => hb.block k hk⟩ (fun r e => by cases e)) hY W (h.below hW) h0).mono ?_
  rintro e W' ⟨he, hj | ⟨pre, hx⟩⟩
  · exact ⟨he, .inl ⟨_, rfl, hj⟩⟩
  · exact ⟨he, .inr ⟨pre, trivial, hx⟩⟩
theorem nf_kb {P Q o : Nat} {m : Int} {w : World} (h : NF P Q o m w) : ∀ (W : World) (l : Nat) (x x' : Obj), w.heap.size ≤ l → W.heap[l]? = some x → x.isCells = false → x.isWalk = false → NF P Q o m W → NF P Q o m (W.putObj l x') := fun W l x x' hl hx hc _ hN => by
  obtain ⟨h1, h2, b, h3, h4⟩ := hN
  have ne : ∀ {k : Nat} {c : Array Value} {T : TypeId}, W.heap[k]? = some (.cells c T (0, 0)) → (W.putObj l x').heap[k]? = some (.cells c T (0, 0)) := fun {k c T} hk => (World.putObj_heap_other (fun e => by
    subst e
    rw [hk] at hx
    cases hx
    cases hc)).trans hk
  exact ⟨ne h1, ne h2, b, h3, ne h4⟩
namespace Cd
def laid (b : Bn) (pre : List Fld) : List UInt8 := Oct.enc b.m ++ pre.flatMap fun f => Oct.enc (f.get b)
theorem laid_snoc (b : Bn) (pre : List Fld) (f : Fld) : laid b (pre ++ [f]) = laid b pre ++ Oct.enc (f.get b) := by
  unfold laid
  rw [List.flatMap_append, List.append_assoc]
  simp
theorem laid_len (b : Bn) : ∀ pre : List Fld, (laid b pre).length ≤ 9 + 9 * pre.length := by
  intro pre
  unfold laid
  rw [List.length_append]
  have h0 := Oct.enc_length_le b.m
  have : (pre.flatMap fun f => Oct.enc (f.get b)).length ≤ 9 * pre.length := by
    induction pre with
    | nil => simp
    | cons f r ih =>
      rw [List.flatMap_cons, List.length_append, List.length_cons]
      have := Oct.enc_length_le (f.get b)
      omega
  omega
theorem laid_all (b : Bn) : laid b (pl b.m 7) = rest b := (rest_lay b).symm
/-- numbers that Go can hold -/
structure FitB (b : Bn) : Prop where
  m : FitN b.m
  g : ∀ f : Fld, FitN (f.get b)
end Cd
abbrev ST : TypeId := 9
/-- between two rounds -/
def LayI (b : Bn) (w : World) (P Q o s : Nat) (pre : List Fld) (W : World) : Prop :=
  W.heap[P]? = some (.cells (plcA o) 152 (0, 0)) ∧ W.heap[Q]? = some (.cells #[.pointer (some ⟨o, 0, none⟩)] 135 (0, 0)) ∧ W.heap[o]? = some (.cells (bnA b) 34 (0, 0)) ∧
    W.heap[s]? = some (.cells #[.string ⟨(laid b pre).toArray⟩] ST (0, 0)) ∧ Below w.heap.size w W
theorem LayI.nf {b : Bn} {w W : World} {P Q o s : Nat} {pre : List Fld} (h : LayI b w P Q o s pre W) : NF P Q o b.m W := ⟨h.1, h.2.1, b, rfl, h.2.2.1⟩
theorem LayI.own {b : Bn} {w : World} {P Q o s B : Nat} (hB : w.heap.size ≤ B) : OwnFrom B (LayI b w P Q o s) :=
  OwnFrom.and cells_own (OwnFrom.and cells_own (OwnFrom.and cells_own (OwnFrom.and cells_own (below_own hB (Nat.le_refl _)))))
theorem LayI.below {b : Bn} {w W W' : World} {P Q o s : Nat} {pre : List Fld} (h : LayI b w P Q o s pre W) (hb : Below W.heap.size W W') : LayI b w P Q o s pre W' := by
  obtain ⟨h1, h2, h3, h4, h5⟩ := h
  exact ⟨(hb.block _ (lt_of_row h1)).trans h1, (hb.block _ (lt_of_row h2)).trans h2, (hb.block _ (lt_of_row h3)).trans h3, (hb.block _ (lt_of_row h4)).trans h4, h5.trans (hb.mono h5.size)⟩
theorem LayI.put {b : Bn} {w W : World} {P Q o s : Nat} {pre : List Fld} (h : LayI b w P Q o s pre W) (hs : w.heap.size ≤ s) (f : Fld) : LayI b w P Q o s (pre ++ [f]) (W.setCell ⟨s, 0, none⟩ (.string ⟨(laid b pre ++ Oct.enc (f.get b)).toArray⟩)) := by
  obtain ⟨h1, h2, h3, h4, h5⟩ := h
  have n1 := Bx.ne_type h1 h4 (by decide)
  have n2 := Bx.ne_type h2 h4 (by decide)
  have n3 := Bx.ne_type h3 h4 (by decide)
  refine ⟨(Bx.ne n1 _).trans h1, (Bx.ne n2 _).trans h2, (Bx.ne n3 _).trans h3, ?_, h5.setCell (p := ⟨s, 0, none⟩) hs _⟩
  rw [laid_snoc]
  exact Bx.set h4 _
set_option maxHeartbeats 16000000 in
set_option maxRecDepth 100000 in
theorem claycomp_any (b : Bn) (hf : FitB b) (w : World) : Calls Tryz.prog 90 #[b.val] w fun e w' => e = .returned (.string ⟨(rest b).toArray⟩) ∧ Below w.heap.size w w' := by
  have C0 := Lib.hid fun W => clay1 b.m hf.m W
  have CF := Lib.hid fun f W => clay1 (f.get b) (hf.g f) W
  have CN := Lib.hid fun o W => cnumbers_any o W
  have T0 := Lib.hid (at1 w (.cells (bnA b) 34))
  have BE := Lib.hid (bel1 w (.cells (bnA b) 34))
  have hmx : Tryz.prog.follows .mixedOrders = true := by kernel_rfl
  have km := (Bx.b11 T0.out).1.2.2.2.1
  have C1 := C0.out (w.alloc (.cells (bnA b) 34))
  rw [size1] at C1
  replace C1 := Lib.hid C1
  clear C0
  refine (callsIn_wide (n := 9)).1 ?_
  refine callsIn_of_wp_marks Tryz.func90 rfl trivial ?_ rfl
  simp only [Tryz.ntmps90, List.size_toArray, List.length_cons, List.length_nil, Nat.reduceAdd, Nat.reduceSub, Array.replicate_succ, Array.replicate_zero, List.push_toArray, List.append_toArray, List.nil_append, List.cons_append, Bn.val]
  gi_wp2_with (first
    | (refine ⟨trivial, ?_⟩; gi_at_call 54; refine (callsIn_wide.2 C1.out).mono ?_; rintro e w2 ⟨rfl, b2⟩)
    | (refine ⟨trivial, ?_⟩; gi_at_call 109; refine (callsIn_wide.2 (CN.out _ _)).mono ?_; rintro e w3 ⟨P, Q, rfl, hP, hQ, bP, bQ, b3⟩))
  have B2 : Below w.heap.size w w2 := BE.out.trans (b2.mono (by omega))
  have o2 := (b2.block _ (by omega : w.heap.size < w.heap.size + 1)).trans T0.out
  have bs := bel1 w2 (.cells #[.string ⟨(Oct.enc b.m).toArray⟩] ST)
  have s2 := at1 w2 (.cells #[.string ⟨(Oct.enc b.m).toArray⟩] ST)
  have e0 : laid b [] = Oct.enc b.m := by simp [laid]
  have hI : LayI b w P Q w.heap.size w2.heap.size [] w3 := by
    refine ⟨bP, bQ, (b3.block _ (by rw [size1]; have := lt_of_row o2; omega)).trans ((bs.block _ (lt_of_row o2)).trans o2), ?_, (B2.trans (bs.mono B2.size)).trans (b3.mono (by rw [size1]; have := B2.size; omega))⟩
    rw [e0]
    exact (b3.block _ (lt_of_row s2)).trans s2
  have hs : w.heap.size ≤ w2.heap.size := B2.size
  have h3 : w.heap.size ≤ w3.heap.size := hI.2.2.2.2.size
  clear b2 B2 o2 bs s2 e0 bP bQ b3 hP hQ C1 CN T0 BE km
  generalize w2.heap.size = s at *
  refine wpIn_rangeFunc_ownG (w := w3) rfl (by omega) (gf := 125) (lb := #[.pointer (some ⟨P, 0, none⟩), .pointer (some ⟨Q, 0, none⟩)]) rfl trivial (enters_of Tryz.func125 (by kernel_rfl) rfl)
    (nums_stops 8 (by omega) P Q w.heap.size b.m w3 hI.nf) (fun h1 h2 h => h2 (h1 h)) (nf_kb hI.nf) (Below.refl _ _) (fun _ => rfl)
    (LayI b w P Q w.heap.size s) (fun _ _ _ => False) (LayI.own h3) (fun _ _ _ _ _ hs _ _ => hs) hI ?a1 ?assign ?body ?done ?stop
  case assign =>
    intro l fl W K hK
    simp only [encF]
    gi_wp2
    exact hK
  case body =>
    rintro l pre f W1 hI1 hlt
    have HI := Lib.hid hI1
    have kS := (Bx.b1 hI1.2.2.2.1).1
    have kf := (bn_cell hI1.2.2.1 f).1
    have kS2 := (Bx.b1 (((bel1 W1 (.cells #[.int .i64 (f.get b)] 3)).block _ (lt_of_row hI1.2.2.2.1)).trans hI1.2.2.2.1)).1
    have C2 := Lib.hid (CF.out f)
    have S1 := cd_sum (laid b pre) (Oct.enc (f.get b)) (by have := laid_len b pre; have := Oct.enc_length_le (f.get b); omega)
    have PUT := fun W' (h : LayI b w P Q w.heap.size s pre W') => h.put hs f
    clear hI hI1 CF hlt
    generalize f.off = j at *
    generalize f.get b = xv at *
    generalize Oct.enc xv = ex at *
    obtain ⟨lp, hlp⟩ : ∃ lp, laid b pre = lp := ⟨_, rfl⟩
    rw [hlp] at kS kS2 S1 PUT
    replace hlp := Lib.hid hlp
    replace PUT := Lib.hid PUT
    gi_wp2
    gi_region_with_o (refine ⟨trivial, ?_⟩; gi_at_call 54; refine (CallsIn.inRound l (callsIn_wide.2 (C2.out W1.drew))).mono ?_; rintro e w4 ⟨rfl, b4⟩; replace b4 : Below W1.heap.size W1 w4 := (Below.refl _ W1).drew.trans b4; have HI4 := Lib.hid (HI.out.below b4); have kS := (Bx.b1 HI4.out.2.2.2.1).1; rw [hlp.out] at kS; have fS := (Bx.b1 HI4.out.2.2.2.1).2)
    all_goals gi_wp2
    all_goals exact ⟨(KeepsFrom.below' b4).trans ((KeepsOthers.setCell _ _ _).from _), fun _ => (PUT.out _ HI4.out).nf, PUT.out _ HI4.out⟩
  case done =>
    rintro D xs W1 hD rfl hI1 hK
    have kS := (Bx.b1 hI1.2.2.2.1).1
    rw [laid_all] at kS
    have FIN := Lib.hid (hI1.2.2.2.2.trans (belowK_b (w := w) (Nat.le_refl _) W1 D _ (.deferred none) (Nat.le_trans h3 hD) hK rfl rfl))
    have HK := Lib.hid hK
    clear hI hI1 hK CF
    gi_wp2
    refine ⟨by simp, .inl ⟨_, _, rfl, run_takeDeferred HK.out, ?_⟩⟩
    exact ⟨_, results_tmp rfl _ _ _, by simp, FIN.out⟩
  case stop =>
    rintro D c pre W _ _ h _
    exact h.elim
end Go.Proofs.YtdhlebmgeiiejaaGreat
namespace Go.Proofs.YtdhlebmgeiiejaaGreat
open Go.RowKit Go.Shelf Pz Cd
set_option linter.unusedVariables false
set_option linter.unusedSimpArgs false

namespace Cd
theorem rest_len (b : Bn) : (rest b).length ≤ 80 := by
  rw [← laid_all]
  have := laid_len b (pl b.m 7)
  have := pl_len b.m 7
  omega
theorem rawID_len (k : NKy) : (rawID k).length ≤ 27 := by
  unfold rawID
  simp only [List.length_append]
  have := Oct.enc_length_le k.1
  have := Oct.enc_length_le k.2.1
  have := Oct.enc_length_le k.2.2
  omega
theorem right_fit {b : Bn} (h : right b = true) : FitB b := by
  obtain ⟨hm, h1, h2, h3, h4, h5, h6, h7⟩ := right_split h
  have K : ∀ {n lo hi : Int} {c : Bool}, inB n lo hi c = true → -9223372036854775808 ≤ lo → hi ≤ 9223372036854775807 → FitN n := fun {n lo hi c} hb hl hh => by
    obtain ⟨k1, k2⟩ := inB_fit hb hl hh
    cases c with
    | true => exact k1 rfl
    | false => rw [k2 rfl]; exact ⟨by decide, by decide⟩
  refine ⟨⟨by omega, by omega⟩, fun f => ?_⟩
  cases f
  · exact K h1 (by decide) (by decide)
  · exact K h2 (by decide) (by decide)
  · exact K h3 (by decide) (by decide)
  · exact K h4 (by decide) (by decide)
  · exact K h5 (by decide) (by decide)
  · exact K h6 (by decide) (by decide)
  · exact K h7 (by decide) (by decide)
def rawB (b : Bn) : List UInt8 := rawID b.id ++ rest b
theorem putB_is (b : Bn) : putB b = if may b then rawB b else [] := by
  unfold putB rawB
  by_cases h : may b = true
  · rw [if_pos h, if_pos h]
    unfold putID
    rw [if_pos (may_split h).1]
  · rw [if_neg h, if_neg h]
def rawC (c : Cn) : List UInt8 := Oct.enc c.k ++ (if c.k = 1 then rawB c.b else if c.k = 2 then rawID (Cn.id c) else if c.k = 3 then rawID (Cn.id c) ++ rest c.b else rawID (Cn.id c) ++ Oct.enc c.m)
theorem putC_is (c : Cn) : putC c = if mayCmd c then rawC c else [] := by
  unfold putC rawC bodyC
  by_cases h : mayCmd c = true
  · rw [if_pos h, if_pos h]
    congr 1
    obtain ⟨k, s, i, g, b, m⟩ := c
    rcases may_kind h with e | e | e | e <;> (simp only at e; subst e)
    · simp only [if_true]
      rw [putB_is, if_pos (mc1 h)]
    · simp only [if_true]
      unfold putID
      rw [if_pos (mc2 h)]
      rfl
    · simp only [if_true]
      unfold putID
      rw [if_pos (mc3 h).1]
      rfl
    · simp only [if_true]
      unfold putID
      rw [if_pos (mc4 h)]
      rfl
  · rw [if_neg h, if_neg h]
end Cd
set_option maxHeartbeats 8000000 in
set_option maxRecDepth 100000 in
theorem claybundle_any (b : Bn) (hi : FitN b.s ∧ FitN b.i ∧ FitN b.g) (hf : FitB b) (w : World) : Calls Tryz.prog 57 #[b.val] w fun e w' => e = .returned (.string ⟨(rawB b).toArray⟩) ∧ Below w.heap.size w w' := by
  have C1 := Lib.hid fun W => clayid_any b.s b.i b.g hi.1 hi.2.1 hi.2.2 W
  have C2 := Lib.hid fun W => claycomp_any b hf W
  have S1 := cd_sum (rawID (b.s, b.i, b.g)) (rest b) (by have := rawID_len (b.s, b.i, b.g); have := rest_len b; omega)
  have HE : Hid (rawB b = rawID (b.s, b.i, b.g) ++ rest b) := Lib.hid rfl
  generalize rawID (b.s, b.i, b.g) = ra at *
  generalize rest b = rb at *
  generalize rawB b = rr at *
  clear hi hf
  obtain ⟨s, i, g, m, x, y, vx, vy, h, p, l⟩ := b
  simp only [Bn.val] at *
  have T0 := at1 w (.cells #[.int .i64 s, .int .i64 i, .int .i64 g, .int .i64 m, .int .i64 x, .int .i64 y, .int .i64 vx, .int .i64 vy, .int .i64 h, .int .i64 p, .int .i64 l] 34)
  have BE := Lib.hid (bel1 w (.cells #[.int .i64 s, .int .i64 i, .int .i64 g, .int .i64 m, .int .i64 x, .int .i64 y, .int .i64 vx, .int .i64 vy, .int .i64 h, .int .i64 p, .int .i64 l] 34))
  go_enter Tryz.func57, Tryz.ntmps57
  go_upto_region 1 with fail
  generalize w.alloc (.cells #[.int .i64 s, .int .i64 i, .int .i64 g, .int .i64 m, .int .i64 x, .int .i64 y, .int .i64 vx, .int .i64 vy, .int .i64 h, .int .i64 p, .int .i64 l] 34) = w1 at *
  have PF := fun p : Lat grows w1 => (Bx.b11 ((p.h.block _ (lt_of_row T0)).trans T0)).1
  have g0 := fun p => (PF p).1
  have g1 := fun p => (PF p).2.1
  have g2 := fun p => (PF p).2.2.1
  have g3 := fun p => (PF p).2.2.2.1
  have g4 := fun p => (PF p).2.2.2.2.1
  have g5 := fun p => (PF p).2.2.2.2.2.1
  have g6 := fun p => (PF p).2.2.2.2.2.2.1
  have g7 := fun p => (PF p).2.2.2.2.2.2.2.1
  have g8 := fun p => (PF p).2.2.2.2.2.2.2.2.1
  have g9 := fun p => (PF p).2.2.2.2.2.2.2.2.2.1
  have g10 := fun p => (PF p).2.2.2.2.2.2.2.2.2.2
  clear PF T0
  refine Og.grow 7 (by kernel_rfl) (by kernel_rfl) fun hc hf => ?_
  clear hc hf
  simp only [List.take_succ_cons, List.take_zero, List.drop_succ_cons, List.drop_zero]
  repeat (refine Og.det [] rfl (fun J hJ => ?_); go_simp; (first
    | with_reducible refine ⟨_, fun p => Og.lays (C1.out p.W), hJ _ _ ?_⟩
    | with_reducible refine ⟨_, fun p => Og.lays (C2.out p.W), hJ _ _ ?_⟩
    | refine hJ _ _ ?_); clear hJ J)
  refine Og.fin fun W hW => ?_
  simp only [Og.opened_nil]
  clear g0 g1 g2 g3 g4 g5 g6 g7 g8 g9 g10
  go_wp2
  go_ret
  rw [HE.out]
  exact ⟨rfl, BE.out.trans (hW.mono BE.out.size)⟩
end Go.Proofs.YtdhlebmgeiiejaaGreat
namespace Go.Proofs.YtdhlebmgeiiejaaGreat
open Go.RowKit Go.Shelf Pz Cd
set_option linter.unusedVariables false
set_option linter.unusedSimpArgs false

/-- a row of one number that an operation has laid -/
abbrev Sole (x : Int) : Og.Ph := Og.Fresh 0 #[.int .i64 x] 3 1
theorem lay_sole {x : Int} (hx : FitN x) {W : World} {v : Value} (hv : Sole x v W) : Calls Tryz.prog 54 #[v] W fun e w' => e = .returned (.string ⟨(Oct.enc x).toArray⟩) ∧ grows.r W w' := by
  obtain ⟨g, rfl, _, hlt, hb⟩ := hv
  refine Og.lays ((int_any (some ⟨g, 0, none⟩) 1 [x] W (by simp) (fun y hy => by rw [List.mem_singleton.1 hy]; exact hx) (fun _ => ⟨g, 0, rfl, hlt, fun k v hv => ?_⟩)).mono ?_)
  · rw [Nat.zero_add]
    exact (Bx.cell hb (by simpa [ints] using hv)).1
  · rintro e w' ⟨rfl, h⟩
    rw [encs_one]
    exact ⟨rfl, h⟩
set_option maxHeartbeats 16000000 in
set_option maxRecDepth 100000 in
theorem claycmd_any (c : Cn) (hm : mayCmd c = true) (w : World) : Calls Tryz.prog 97 #[c.val] w fun e w' => e = .returned (.string ⟨(rawC c).toArray⟩) ∧ Below w.heap.size w w' := by
  obtain ⟨ck, cs, ci, cg, ⟨ds, di, dg, dm, dx, dy, dvx, dvy, dh, dp, dl⟩, cm⟩ := c
  have hk := may_kind hm
  simp only at hk
  have T0 := Lib.hid (at1 w (.cells #[.int .i64 ck, .int .i64 cs, .int .i64 ci, .int .i64 cg, .int .i64 ds, .int .i64 di, .int .i64 dg, .int .i64 dm, .int .i64 dx, .int .i64 dy, .int .i64 dvx, .int .i64 dvy, .int .i64 dh, .int .i64 dp, .int .i64 dl, .int .i64 cm] 38))
  have BE := Lib.hid (bel1 w (.cells #[.int .i64 ck, .int .i64 cs, .int .i64 ci, .int .i64 cg, .int .i64 ds, .int .i64 di, .int .i64 dg, .int .i64 dm, .int .i64 dx, .int .i64 dy, .int .i64 dvx, .int .i64 dvy, .int .i64 dh, .int .i64 dp, .int .i64 dl, .int .i64 cm] 38))
  rcases hk with e | e | e | e
  · subst e
    have C0 := Lib.hid fun W => clay1 1 ⟨by decide, by decide⟩ W
    have hb : may ⟨ds, di, dg, dm, dx, dy, dvx, dvy, dh, dp, dl⟩ = true := mc1 hm
    have C1 : Hid (∀ W, Calls Tryz.prog 57 #[.agg #[.int .i64 ds, .int .i64 di, .int .i64 dg, .int .i64 dm, .int .i64 dx, .int .i64 dy, .int .i64 dvx, .int .i64 dvy, .int .i64 dh, .int .i64 dp, .int .i64 dl]] W fun e w' => e = .returned (.string ⟨(rawB ⟨ds, di, dg, dm, dx, dy, dvx, dvy, dh, dp, dl⟩).toArray⟩) ∧ Below W.heap.size W w') := Lib.hid fun W => claybundle_any ⟨ds, di, dg, dm, dx, dy, dvx, dvy, dh, dp, dl⟩ (okID_fit (may_split hb).1) (right_fit (may_split hb).2) W
    have HE : Hid (rawC ⟨1, cs, ci, cg, ⟨ds, di, dg, dm, dx, dy, dvx, dvy, dh, dp, dl⟩, cm⟩ = Oct.enc 1 ++ rawB ⟨ds, di, dg, dm, dx, dy, dvx, dvy, dh, dp, dl⟩) := Lib.hid rfl
    have S1 := cd_sum (Oct.enc 1) (rawB ⟨ds, di, dg, dm, dx, dy, dvx, dvy, dh, dp, dl⟩) (by unfold rawB; rw [List.length_append]; have := rawID_len (Bn.id ⟨ds, di, dg, dm, dx, dy, dvx, dvy, dh, dp, dl⟩); have := rest_len ⟨ds, di, dg, dm, dx, dy, dvx, dvy, dh, dp, dl⟩; have := Oct.enc_length_le 1; omega)
    generalize rawB ⟨ds, di, dg, dm, dx, dy, dvx, dvy, dh, dp, dl⟩ = rb at *
    generalize rawC ⟨1, cs, ci, cg, ⟨ds, di, dg, dm, dx, dy, dvx, dvy, dh, dp, dl⟩, cm⟩ = rr at *
    generalize Oct.enc 1 = e1 at *
    clear hb hm
    simp only [Cn.val]
    as_aux_lemma =>
      go_enter Tryz.func97, Tryz.ntmps97
      go_upto_region 1 with fail
      generalize w.alloc (.cells #[.int .i64 1, .int .i64 cs, .int .i64 ci, .int .i64 cg, .int .i64 ds, .int .i64 di, .int .i64 dg, .int .i64 dm, .int .i64 dx, .int .i64 dy, .int .i64 dvx, .int .i64 dvy, .int .i64 dh, .int .i64 dp, .int .i64 dl, .int .i64 cm] 38) = w1 at *
      obtain ⟨⟨k0, k1, k2, k3, k4, k5, k6, k7, k8, k9, k10, k11, k12, k13, k14, k15⟩, _⟩ := Bx.b16 T0.out
      go_wp2_with fail
      with_reducible refine (C0.out _).mono ?_
      rintro e w2 ⟨rfl, b2⟩
      replace BE := Lib.hid (BE.out.trans (b2.mono BE.out.size))
      replace T0 := Lib.hid ((b2.block _ (lt_of_row T0.out)).trans T0.out)
      clear b2 C0 k0 k1 k2 k3 k4 k5 k6 k7 k8 k9 k10 k11 k12 k13 k14 k15
      obtain ⟨⟨k0, k1, k2, k3, k4, k5, k6, k7, k8, k9, k10, k11, k12, k13, k14, k15⟩, _⟩ := Bx.b16 T0.out
      go_wp2_with fail
      with_reducible refine (C1.out _).mono ?_
      rintro e w3 ⟨rfl, b3⟩
      replace BE := Lib.hid (BE.out.trans (b3.mono BE.out.size))
      clear k0 k1 k2 k3 k4 k5 k6 k7 k8 k9 k10 k11 k12 k13 k14 k15 b3 C1 T0
      go_wp2
      go_ret
      rw [HE.out]
      exact ⟨rfl, BE.out⟩
  · subst e
    have C0 := Lib.hid fun W => clay1 2 ⟨by decide, by decide⟩ W
    have hf := okID_fit (mc2 hm)
    have C1 := Lib.hid fun W => clayid_any cs ci cg hf.1 hf.2.1 hf.2.2 W
    have HE : Hid (rawC ⟨2, cs, ci, cg, ⟨ds, di, dg, dm, dx, dy, dvx, dvy, dh, dp, dl⟩, cm⟩ = Oct.enc 2 ++ rawID (cs, ci, cg)) := Lib.hid rfl
    have S1 := cd_sum (Oct.enc 2) (rawID (cs, ci, cg)) (by have := rawID_len (cs, ci, cg); have := Oct.enc_length_le 2; omega)
    generalize rawID (cs, ci, cg) = rb at *
    generalize rawC ⟨2, cs, ci, cg, ⟨ds, di, dg, dm, dx, dy, dvx, dvy, dh, dp, dl⟩, cm⟩ = rr at *
    generalize Oct.enc 2 = e1 at *
    clear hf hm
    simp only [Cn.val]
    as_aux_lemma =>
      go_enter Tryz.func97, Tryz.ntmps97
      go_upto_region 1 with fail
      generalize w.alloc (.cells #[.int .i64 2, .int .i64 cs, .int .i64 ci, .int .i64 cg, .int .i64 ds, .int .i64 di, .int .i64 dg, .int .i64 dm, .int .i64 dx, .int .i64 dy, .int .i64 dvx, .int .i64 dvy, .int .i64 dh, .int .i64 dp, .int .i64 dl, .int .i64 cm] 38) = w1 at *
      obtain ⟨⟨k0, k1, k2, k3, k4, k5, k6, k7, k8, k9, k10, k11, k12, k13, k14, k15⟩, _⟩ := Bx.b16 T0.out
      go_wp2_with fail
      with_reducible refine (C0.out _).mono ?_
      rintro e w2 ⟨rfl, b2⟩
      replace BE := Lib.hid (BE.out.trans (b2.mono BE.out.size))
      replace T0 := Lib.hid ((b2.block _ (lt_of_row T0.out)).trans T0.out)
      clear b2 C0 k0 k1 k2 k3 k4 k5 k6 k7 k8 k9 k10 k11 k12 k13 k14 k15
      obtain ⟨⟨k0, k1, k2, k3, k4, k5, k6, k7, k8, k9, k10, k11, k12, k13, k14, k15⟩, _⟩ := Bx.b16 T0.out
      go_wp2_with fail
      with_reducible refine (C1.out _).mono ?_
      rintro e w3 ⟨rfl, b3⟩
      replace BE := Lib.hid (BE.out.trans (b3.mono BE.out.size))
      clear k0 k1 k2 k3 k4 k5 k6 k7 k8 k9 k10 k11 k12 k13 k14 k15 b3 C1 T0
      go_wp2
      go_ret
      rw [HE.out]
      exact ⟨rfl, BE.out⟩
  · subst e
    have C0 := Lib.hid fun W => clay1 3 ⟨by decide, by decide⟩ W
    have hf := okID_fit (mc3 hm).1
    have C1 := Lib.hid fun W => clayid_any cs ci cg hf.1 hf.2.1 hf.2.2 W
    have hr : right ⟨ds, di, dg, dm, dx, dy, dvx, dvy, dh, dp, dl⟩ = true := by
      have h : ((((rightID cs ci cg && decide (cm = 0)) && noID ds di dg) && takesB dm) && right ⟨ds, di, dg, dm, dx, dy, dvx, dvy, dh, dp, dl⟩) = true := hm
      rw [Bool.and_eq_true] at h
      exact h.2
    have C2 : Hid (∀ W, Calls Tryz.prog 90 #[.agg #[.int .i64 ds, .int .i64 di, .int .i64 dg, .int .i64 dm, .int .i64 dx, .int .i64 dy, .int .i64 dvx, .int .i64 dvy, .int .i64 dh, .int .i64 dp, .int .i64 dl]] W fun e w' => e = .returned (.string ⟨(rest ⟨ds, di, dg, dm, dx, dy, dvx, dvy, dh, dp, dl⟩).toArray⟩) ∧ Below W.heap.size W w') := Lib.hid fun W => claycomp_any ⟨ds, di, dg, dm, dx, dy, dvx, dvy, dh, dp, dl⟩ (right_fit hr) W
    have HE : Hid (rawC ⟨3, cs, ci, cg, ⟨ds, di, dg, dm, dx, dy, dvx, dvy, dh, dp, dl⟩, cm⟩ = Oct.enc 3 ++ (rawID (cs, ci, cg) ++ rest ⟨ds, di, dg, dm, dx, dy, dvx, dvy, dh, dp, dl⟩)) := Lib.hid rfl
    have S1 := cd_sum (rawID (cs, ci, cg)) (rest ⟨ds, di, dg, dm, dx, dy, dvx, dvy, dh, dp, dl⟩) (by have := rawID_len (cs, ci, cg); have := rest_len ⟨ds, di, dg, dm, dx, dy, dvx, dvy, dh, dp, dl⟩; omega)
    have S2 := cd_sum (Oct.enc 3) (rawID (cs, ci, cg) ++ rest ⟨ds, di, dg, dm, dx, dy, dvx, dvy, dh, dp, dl⟩) (by rw [List.length_append]; have := rawID_len (cs, ci, cg); have := rest_len ⟨ds, di, dg, dm, dx, dy, dvx, dvy, dh, dp, dl⟩; have := Oct.enc_length_le 3; omega)
    generalize rawID (cs, ci, cg) = rb at *
    generalize rest ⟨ds, di, dg, dm, dx, dy, dvx, dvy, dh, dp, dl⟩ = rc at *
    generalize rawC ⟨3, cs, ci, cg, ⟨ds, di, dg, dm, dx, dy, dvx, dvy, dh, dp, dl⟩, cm⟩ = rr at *
    generalize Oct.enc 3 = e1 at *
    clear hf hm hr
    simp only [Cn.val]
    as_aux_lemma =>
      go_enter Tryz.func97, Tryz.ntmps97
      go_upto_region 1 with fail
      generalize w.alloc (.cells #[.int .i64 3, .int .i64 cs, .int .i64 ci, .int .i64 cg, .int .i64 ds, .int .i64 di, .int .i64 dg, .int .i64 dm, .int .i64 dx, .int .i64 dy, .int .i64 dvx, .int .i64 dvy, .int .i64 dh, .int .i64 dp, .int .i64 dl, .int .i64 cm] 38) = w1 at *
      obtain ⟨⟨k0, k1, k2, k3, k4, k5, k6, k7, k8, k9, k10, k11, k12, k13, k14, k15⟩, _⟩ := Bx.b16 T0.out
      go_wp2_with fail
      with_reducible refine (C0.out _).mono ?_
      rintro e w2 ⟨rfl, b2⟩
      replace BE := Lib.hid (BE.out.trans (b2.mono BE.out.size))
      replace T0 := Lib.hid ((b2.block _ (lt_of_row T0.out)).trans T0.out)
      clear b2 C0 k0 k1 k2 k3 k4 k5 k6 k7 k8 k9 k10 k11 k12 k13 k14 k15
      obtain ⟨⟨k0, k1, k2, k3, k4, k5, k6, k7, k8, k9, k10, k11, k12, k13, k14, k15⟩, _⟩ := Bx.b16 T0.out
      go_upto_region 8 with fail
      clear k0 k1 k2 k3 k4 k5 k6 k7 k8 k9 k10 k11 k12 k13 k14 k15
      have PF := fun p : Lat grows w2 => (Bx.b16 ((p.h.block _ (lt_of_row T0.out)).trans T0.out)).1
      have k0 := fun p => (PF p).1
      have k1 := fun p => (PF p).2.1
      have k2 := fun p => (PF p).2.2.1
      have k3 := fun p => (PF p).2.2.2.1
      have k4 := fun p => (PF p).2.2.2.2.1
      have k5 := fun p => (PF p).2.2.2.2.2.1
      have k6 := fun p => (PF p).2.2.2.2.2.2.1
      have k7 := fun p => (PF p).2.2.2.2.2.2.2.1
      have k8 := fun p => (PF p).2.2.2.2.2.2.2.2.1
      have k9 := fun p => (PF p).2.2.2.2.2.2.2.2.2.1
      have k10 := fun p => (PF p).2.2.2.2.2.2.2.2.2.2.1
      have k11 := fun p => (PF p).2.2.2.2.2.2.2.2.2.2.2.1
      have k12 := fun p => (PF p).2.2.2.2.2.2.2.2.2.2.2.2.1
      have k13 := fun p => (PF p).2.2.2.2.2.2.2.2.2.2.2.2.2.1
      have k14 := fun p => (PF p).2.2.2.2.2.2.2.2.2.2.2.2.2.2.1
      have k15 := fun p => (PF p).2.2.2.2.2.2.2.2.2.2.2.2.2.2.2
      clear PF
      refine Og.grow 9 (by kernel_rfl) (by kernel_rfl) fun hc hf => ?_
      clear hc hf
      simp only [List.take_succ_cons, List.take_zero, List.drop_succ_cons, List.drop_zero]
      iterate 3 (refine Og.det [] rfl (fun J hJ => ?_); go_simp; refine hJ _ _ ?_; clear hJ J)
      refine Og.det [] rfl (fun J hJ => ?_)
      go_simp
      with_reducible refine ⟨_, fun p => Og.lays (C1.out p.W), hJ _ _ ?_⟩
      clear hJ J
      iterate 2 (refine Og.det [] rfl (fun J hJ => ?_); go_simp; refine hJ _ _ ?_; clear hJ J)
      refine Og.det [] rfl (fun J hJ => ?_)
      go_simp
      with_reducible refine ⟨_, fun p => Og.lays (C2.out p.W), hJ _ _ ?_⟩
      clear hJ J
      iterate 2 (refine Og.det [] rfl (fun J hJ => ?_); go_simp; refine hJ _ _ ?_; clear hJ J)
      refine Og.fin fun W hW => ?_
      simp only [Og.opened_nil]
      replace BE := Lib.hid (BE.out.trans (hW.mono BE.out.size))
      clear k0 k1 k2 k3 k4 k5 k6 k7 k8 k9 k10 k11 k12 k13 k14 k15 T0
      go_wp2
      go_ret
      rw [HE.out]
      exact ⟨rfl, BE.out⟩
  · subst e
    have C0 := Lib.hid fun W => clay1 4 ⟨by decide, by decide⟩ W
    have hf := okID_fit (mc4 hm)
    have hmf : FitN cm := by
      have h : ((rightID cs ci cg && empty ⟨ds, di, dg, dm, dx, dy, dvx, dvy, dh, dp, dl⟩) && takesB cm) = true := hm
      simp only [Bool.and_eq_true, takesB, decide_eq_true_eq] at h
      exact ⟨by omega, by omega⟩
    have C1 := Lib.hid fun W => clayid_any cs ci cg hf.1 hf.2.1 hf.2.2 W
    have HE : Hid (rawC ⟨4, cs, ci, cg, ⟨ds, di, dg, dm, dx, dy, dvx, dvy, dh, dp, dl⟩, cm⟩ = Oct.enc 4 ++ (rawID (cs, ci, cg) ++ Oct.enc cm)) := Lib.hid rfl
    have S1 := cd_sum (rawID (cs, ci, cg)) (Oct.enc cm) (by have := rawID_len (cs, ci, cg); have := Oct.enc_length_le cm; omega)
    have S2 := cd_sum (Oct.enc 4) (rawID (cs, ci, cg) ++ Oct.enc cm) (by rw [List.length_append]; have := rawID_len (cs, ci, cg); have := Oct.enc_length_le cm; have := Oct.enc_length_le 4; omega)
    have LS : Hid (∀ (W : World) (v : Value), Sole cm v W → Calls Tryz.prog 54 #[v] W fun e w' => e = .returned (.string ⟨(Oct.enc cm).toArray⟩) ∧ grows.r W w') := Lib.hid fun W v hv => lay_sole hmf hv
    generalize rawID (cs, ci, cg) = rb at *
    generalize Oct.enc cm = rc at *
    generalize rawC ⟨4, cs, ci, cg, ⟨ds, di, dg, dm, dx, dy, dvx, dvy, dh, dp, dl⟩, cm⟩ = rr at *
    generalize Oct.enc 4 = e1 at *
    clear hf hm hmf
    simp only [Cn.val]
    as_aux_lemma =>
      go_enter Tryz.func97, Tryz.ntmps97
      go_upto_region 1 with fail
      generalize w.alloc (.cells #[.int .i64 4, .int .i64 cs, .int .i64 ci, .int .i64 cg, .int .i64 ds, .int .i64 di, .int .i64 dg, .int .i64 dm, .int .i64 dx, .int .i64 dy, .int .i64 dvx, .int .i64 dvy, .int .i64 dh, .int .i64 dp, .int .i64 dl, .int .i64 cm] 38) = w1 at *
      obtain ⟨⟨k0, k1, k2, k3, k4, k5, k6, k7, k8, k9, k10, k11, k12, k13, k14, k15⟩, _⟩ := Bx.b16 T0.out
      go_wp2_with fail
      with_reducible refine (C0.out _).mono ?_
      rintro e w2 ⟨rfl, b2⟩
      replace BE := Lib.hid (BE.out.trans (b2.mono BE.out.size))
      replace T0 := Lib.hid ((b2.block _ (lt_of_row T0.out)).trans T0.out)
      clear b2 C0 k0 k1 k2 k3 k4 k5 k6 k7 k8 k9 k10 k11 k12 k13 k14 k15
      obtain ⟨⟨k0, k1, k2, k3, k4, k5, k6, k7, k8, k9, k10, k11, k12, k13, k14, k15⟩, _⟩ := Bx.b16 T0.out
      go_upto_region 10 with fail
      clear k0 k1 k2 k3 k4 k5 k6 k7 k8 k9 k10 k11 k12 k13 k14 k15
      have PF := fun p : Lat grows w2 => (Bx.b16 ((p.h.block _ (lt_of_row T0.out)).trans T0.out)).1
      have k0 := fun p => (PF p).1
      have k1 := fun p => (PF p).2.1
      have k2 := fun p => (PF p).2.2.1
      have k3 := fun p => (PF p).2.2.2.1
      have k4 := fun p => (PF p).2.2.2.2.1
      have k5 := fun p => (PF p).2.2.2.2.2.1
      have k6 := fun p => (PF p).2.2.2.2.2.2.1
      have k7 := fun p => (PF p).2.2.2.2.2.2.2.1
      have k8 := fun p => (PF p).2.2.2.2.2.2.2.2.1
      have k9 := fun p => (PF p).2.2.2.2.2.2.2.2.2.1
      have k10 := fun p => (PF p).2.2.2.2.2.2.2.2.2.2.1
      have k11 := fun p => (PF p).2.2.2.2.2.2.2.2.2.2.2.1
      have k12 := fun p => (PF p).2.2.2.2.2.2.2.2.2.2.2.2.1
      have k13 := fun p => (PF p).2.2.2.2.2.2.2.2.2.2.2.2.2.1
      have k14 := fun p => (PF p).2.2.2.2.2.2.2.2.2.2.2.2.2.2.1
      have k15 := fun p => (PF p).2.2.2.2.2.2.2.2.2.2.2.2.2.2.2
      clear PF
      refine Og.grow 10 (by kernel_rfl) (by kernel_rfl) fun hc hf => ?_
      clear hc hf
      simp only [List.take_succ_cons, List.take_zero, List.drop_succ_cons, List.drop_zero]
      iterate 3 (refine Og.det [] rfl (fun J hJ => ?_); go_simp; refine hJ _ _ ?_; clear hJ J)
      refine Og.det [] rfl (fun J hJ => ?_)
      go_simp
      with_reducible refine ⟨_, fun p => Og.lays (C1.out p.W), hJ _ _ ?_⟩
      clear hJ J
      iterate 2 (refine Og.det [] rfl (fun J hJ => ?_); go_simp; refine hJ _ _ ?_; clear hJ J)
      refine Og.such 43 (Sole cm) [] rfl (Og.Fresh.lasts _ _ _ _) (Og.Fresh.noBool _ _ _ _) (fun J hJ => ?_)
      go_simp
      refine ⟨fun p => Og.Fresh.new p.W 0 (Nat.zero_le _) _ _ _, hJ _ _ ?_⟩
      clear hJ J
      refine Og.det [(43, Sole cm)] rfl (fun J hJ => ?_)
      go_simp
      refine ⟨_, fun p v hv => LS.out _ v hv, hJ _ _ ?_⟩
      clear hJ J
      iterate 2 (refine Og.det [] rfl (fun J hJ => ?_); go_simp; refine hJ _ _ ?_; clear hJ J)
      refine Og.fin fun W hW => ?_
      simp only [Og.opened_cons, Og.opened_nil]
      intro v43 hv43
      clear hv43
      replace BE := Lib.hid (BE.out.trans (hW.mono BE.out.size))
      clear k0 k1 k2 k3 k4 k5 k6 k7 k8 k9 k10 k11 k12 k13 k14 k15 T0
      go_wp2
      go_ret
      rw [HE.out]
      exact ⟨rfl, BE.out⟩
end Go.Proofs.YtdhlebmgeiiejaaGreat
