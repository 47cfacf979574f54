/- SyFar, SyCopy, SySum, SyUn, in one text. -/
import Derived.Test.YtfmbldjaknjgbaaKSyA
import Derived.Test.YtfmbldjaknjgbaaKSoA
import Derived.Test.YtfmbldjaknjgbaaKSp
import Derived.Test.YtfmbldjaknjgbaaKRw
import Derived.Test.YtfmbldjaknjgbaaKBase
import Derived.Laws.OwnMore
import Derived.Lib.SliceRun
import Derived.Deep.DeepCutAuto
import Derived.Test.YtfmbldjaknjgbaaKSyB
import Derived.Test.YtfmbldjaknjgbaaKPz
namespace Go.Proofs.Ytfmbldjaknjgbaa
open Go Pz
set_option linter.unusedVariables false

namespace Sy
/-- whoever is made far, or without power -/
def fz (j : Nat) (c : Bn) : Bn := if j % 2 = 0 then { c with x := 1073741824, y := -1073741824 } else { c with m := bits .andNot .i64 c.m 8 }
def fzs (l : List Bn) (k : Nat) : List Bn := (List.range k).filterMap fun j => l[j]?.map (fz j)
theorem fzs_next {l : List Bn} {k : Nat} {c : Bn} (h : l[k]? = some c) : fzs l (k + 1) = fzs l k ++ [fz k c] := by
  unfold fzs
  rw [List.range_succ, List.filterMap_append]
  simp [h]
theorem fzs_len {l : List Bn} : ∀ {k : Nat}, k ≤ l.length → (fzs l k).length = k
  | 0, _ => rfl
  | k + 1, h => by
    rw [fzs_next (List.getElem?_eq_getElem (by omega)), List.length_append, fzs_len (by omega)]
    rfl
theorem fzs_mem {l : List Bn} {k : Nat} {c : Bn} (h : c ∈ fzs l k) : ∃ j c0, c0 ∈ l ∧ c = fz j c0 := by
  obtain ⟨j, _, e⟩ := List.mem_filterMap.1 h
  cases hj : l[j]? with
  | none => rw [hj] at e; cases e
  | some c0 =>
    rw [hj] at e
    cases e
    exact ⟨j, c0, List.mem_of_getElem? hj, rfl⟩
theorem fz_fit {j : Nat} {c : Bn} (h : Fit c.m) : Fit (fz j c).m := by
  unfold fz
  split
  · exact h
  · exact fit_andNot _ _
theorem far_none {r : Int} {b c : Bn} {j : Nat} (hr : r < 1000) (hb : b.x ≤ 536870912) : meets b r (fz j c) = false := by
  unfold meets fz
  split
  · have : ¬ Rc.far b.x b.y 1073741824 (-1073741824) ≤ r := by
      unfold Rc.far Rc.dist Rc.clamp
      omega
    dsimp only
    rw [decide_eq_false this, Bool.and_false]
  · dsimp only
    rw [bit_andNot _ _ (by decide), show bitB 8 3 = true by decide]
    simp
theorem hits_fzs {r : Int} {own l : List Bn} {k : Nat} (hr : r < 1000) (h : ∀ b ∈ own, b.x ≤ 536870912) : hits r own (fzs l k) = hits r own [] :=
  hits_far fun b hb c hc => by
    obtain ⟨j, c0, _, rfl⟩ := fzs_mem hc
    exact far_none hr (h b hb)
end Sy
end Go.Proofs.Ytfmbldjaknjgbaa
namespace Go.Proofs.Ytfmbldjaknjgbaa
open Go.RowKit Pz Sp
set_option linter.unusedVariables false
set_option linter.unusedSimpArgs false

/-- an append of entities to a row of none -/
theorem app_bn (W : World) {l : List Bn} {A : Option Addr} {cap : Nat} (R : RdB W W.heap.size A l) (hl : l.length ≤ 1000000) (ty : TypeId) :
    ∃ A' c' w', (Builtin.append_ #[22, 22] ty #[.slice (some ⟨W.heap.size, 0, none⟩) 0 0, .slice A l.length cap]).run Try.prog (W.alloc (.cells #[] 34)) = .ok (.slice A' l.length c') w' ∧
      OwnB w' W.heap.size (.slice A' l.length c') l ∧ Below W.heap.size W w' := by
  have h0 : OwnB (W.alloc (.cells #[] 34)) W.heap.size (.slice (some ⟨W.heap.size, 0, none⟩) 0 0) [] :=
    .inr ⟨W.heap.size, 0, 0, #[], rfl, Nat.le_refl _, at1 W _, Nat.le_refl _, by decide, by simp, fun j x hj => by simp at hj⟩
  cases hll : l with
  | nil =>
    subst hll
    refine ⟨some ⟨W.heap.size, 0, none⟩, 0, W.alloc (.cells #[] 34), ?_, h0, bel1 W _⟩
    obtain ⟨i, hi, hz, h2, h3⟩ := info_parts bundle_info
    cases A <;> simp [Builtin.append_, run_underlying Try.underlying22, sizeOf, typeInfo, hi, Builtin.lenOf, Builtin.firstCells, storeCells, loadCells, loadCellsFrom]
  | cons x0 r0 =>
    rw [← hll]
    obtain ⟨g, o, rfl, _⟩ := R 0 x0 (by rw [hll]; rfl)
    have hpos : 0 < l.length := by rw [hll]; simp
    obtain ⟨v', w', hr, ho, hg, hb⟩ := h0.app (P := Try.prog) (t := 22) (ty := ty) Try.underlying22 bundle_info rfl (by decide) bnE_len bnE_one (by rw [size1]; omega) l ⟨g, o, none⟩ cap (fun j x hj => by
      obtain ⟨g', o', e, hg, KS⟩ := (R.below (bel1 W (.cells #[] 34))) j x hj
      cases e
      intro c u hu
      have hc : c < 11 := (List.getElem?_eq_some_iff.1 hu).1
      rw [Addr.add_mid, ← Nat.add_assoc]
      have : c = 0 ∨ c = 1 ∨ c = 2 ∨ c = 3 ∨ c = 4 ∨ c = 5 ∨ c = 6 ∨ c = 7 ∨ c = 8 ∨ c = 9 ∨ c = 10 := by omega
      rcases this with rfl | rfl | rfl | rfl | rfl | rfl | rfl | rfl | rfl | rfl | rfl
      · have e1 : u = .int .i64 x.s := by simpa [bnE] using hu.symm
        rw [e1]
        exact KS.1
      · have e1 : u = .int .i64 x.i := by simpa [bnE] using hu.symm
        rw [e1]
        exact KS.2.1
      · have e1 : u = .int .i64 x.g := by simpa [bnE] using hu.symm
        rw [e1]
        exact KS.2.2.1
      · have e1 : u = .int .i64 x.m := by simpa [bnE] using hu.symm
        rw [e1]
        exact KS.2.2.2.1
      · have e1 : u = .int .i64 x.x := by simpa [bnE] using hu.symm
        rw [e1]
        exact KS.2.2.2.2.1
      · have e1 : u = .int .i64 x.y := by simpa [bnE] using hu.symm
        rw [e1]
        exact KS.2.2.2.2.2.1
      · have e1 : u = .int .i64 x.vx := by simpa [bnE] using hu.symm
        rw [e1]
        exact KS.2.2.2.2.2.2.1
      · have e1 : u = .int .i64 x.vy := by simpa [bnE] using hu.symm
        rw [e1]
        exact KS.2.2.2.2.2.2.2.1
      · have e1 : u = .int .i64 x.h := by simpa [bnE] using hu.symm
        rw [e1]
        exact KS.2.2.2.2.2.2.2.2.1
      · have e1 : u = .int .i64 x.p := by simpa [bnE] using hu.symm
        rw [e1]
        exact KS.2.2.2.2.2.2.2.2.2.1
      · have e1 : u = .int .i64 x.l := by simpa [bnE] using hu.symm
        rw [e1]
        exact KS.2.2.2.2.2.2.2.2.2.2
      ) (by simpa using hl) (by decide) (.inl hpos)
    obtain ⟨A', c', hv⟩ := ho.form
    rw [List.nil_append] at ho hv
    subst hv
    exact ⟨A', c', w', hr, ho, ((Below.refl W.heap.size W).alloc (Nat.le_refl _) _).grown hg (by rw [size1]; omega) (fun k hk => (h0.blk hk).1)⟩
set_option maxHeartbeats 8000000 in
theorem few_any {w : World} {A : Option Addr} {c : Nat} {l : List Bn} (R : RdB w w.heap.size A l) (hc : l.length ≤ c) (hcap : c ≤ 140737488351232) :
    Calls Try.prog 11 #[.slice A l.length c] w fun e w' => (∃ c', e = .returned (.slice A (l.take 60).length c') ∧ (l.take 60).length ≤ c' ∧ c' ≤ 140737488351232) ∧ w = w' := by
  rw [List.length_take]
  by_cases hl : 60 < l.length
  · obtain ⟨g, o, rfl, rest⟩ := R 0 l[0] (List.getElem?_eq_getElem (by omega))
    clear rest
    have t1 : (60 : Int) < (l.length : Int) := by omega
    have e1 : min 60 l.length = 60 := by omega
    have hc2 : 60 ≤ c := by omega
    rw [e1]
    clear R e1
    generalize l.length = n at *
    go_enter Try.func11, Try.ntmps11
    go_wp2
    go_ret
    exact ⟨⟨_, rfl, by omega, by omega⟩, rfl⟩
  · have t1 : ¬ (60 : Int) < (l.length : Int) := by omega
    have e1 : min 60 l.length = l.length := by omega
    rw [e1]
    clear R e1
    generalize l.length = n at *
    go_enter Try.func11, Try.ntmps11
    go_wp2
    go_ret
    exact ⟨⟨_, rfl, by omega, by omega⟩, rfl⟩
theorem RdB.take {W : World} {B : Nat} {A : Option Addr} {l : List Bn} (h : RdB W B A l) (k : Nat) : RdB W B A (l.take k) := fun j x hx => by
  refine h j x ?_
  rw [List.getElem?_take] at hx
  split at hx
  · exact hx
  · cases hx
theorem RdB.own0 {W : World} {B : Nat} {A : Option Addr} {n c : Nat} {l : List Bn} (h : OwnB W B (.slice A n c) l) : n = l.length ∧ RdB W W.heap.size A l := by
  have e : n = l.length := by
    rcases h with ⟨e, h⟩ | ⟨g, off, cap, cur, e, _⟩
    · subst h; injection e with _ e2 _; first | exact e2 | skip
    · injection e with _ e2 _; first | exact e2 | skip
  subst e
  exact ⟨rfl, RdB.of_own h⟩
end Go.Proofs.Ytfmbldjaknjgbaa
namespace Go.Proofs.Ytfmbldjaknjgbaa
open Go.RowKit Pz Sp
set_option linter.unusedVariables false
set_option linter.unusedSimpArgs false

namespace Sy
theorem sumH_take {l : List HK} (id : Int × Int × Int) {j : Nat} (hj : j < l.length) : sumH (l.take (j + 1)) id = if l[j].1 = id then sumH (l.take j) id + l[j].2 else sumH (l.take j) id := by
  rw [← List.take_append_getElem hj, sumH_app]
  by_cases h : l[j].1 = id
  · rw [if_pos h]
    simp [sumH, h]
  · rw [if_neg h]
    simp [sumH, h]
theorem sumH_bd (id : Int × Int × Int) : ∀ {l : List HK}, (∀ x ∈ l, 0 ≤ x.2 ∧ x.2 ≤ 1073741824) → 0 ≤ sumH l id ∧ sumH l id ≤ 1073741824 * l.length
  | [], _ => by simp [sumH_nil]
  | x :: l, h => by
    have ih := sumH_bd id (l := l) fun y hy => h y (List.mem_cons_of_mem _ hy)
    have hx := h x List.mem_cons_self
    have e : sumH (x :: l) id = (if x.1 = id then x.2 else 0) + sumH l id := by
      by_cases c : x.1 = id <;> simp [sumH, c]
    rw [e, List.length_cons]
    split <;> omega
theorem hits_bd {r : Int} {own others : List Bn} : ∀ x ∈ hits r own others, 0 ≤ x.2 ∧ x.2 ≤ 1073741824 := fun x hx => by
  obtain ⟨b, _, e⟩ := List.mem_filterMap.1 hx
  unfold hitOf at e
  split at e
  · rename_i c
    cases e
    exact ⟨Int.le_of_lt c.2, (takes_bd b r others _ (takes_bd b r own 0 (by decide))).2⟩
  · cases e
end Sy
set_option maxHeartbeats 16000000 in
set_option maxRecDepth 100000 in
theorem sum_any {w : World} {A : Option Addr} {c B : Nat} {l : List HK} (R : OwnH w B (.slice A l.length c) l) (hl : l.length ≤ 1000) (hb : ∀ x ∈ l, 0 ≤ x.2 ∧ x.2 ≤ 1073741824) (s i g : Int) :
    Calls Try.prog 28 #[.slice A l.length c, .agg #[.int .i64 s, .int .i64 i, .int .i64 g]] w fun e w' => e = .returned (.int .i64 (Sy.sumH l (s, i, g))) ∧ Below w.heap.size w w' := by
  have T0 := at1 w (.cells #[.int .i64 s, .int .i64 i, .int .i64 g] 32)
  have BE := bel1 w (.cells #[.int .i64 s, .int .i64 i, .int .i64 g] 32)
  have IDC : Hid (∀ W, Below (w.alloc (.cells #[.int .i64 s, .int .i64 i, .int .i64 g] 32)).heap.size (w.alloc (.cells #[.int .i64 s, .int .i64 i, .int .i64 g] 32)) W → (W.cell? ⟨w.heap.size, 0, none⟩ = some (.int .i64 s) ∧ W.cell? ⟨w.heap.size, 1, none⟩ = some (.int .i64 i) ∧ W.cell? ⟨w.heap.size, 2, none⟩ = some (.int .i64 g)) ∧ Below w.heap.size w W) := Lib.hid fun W hW => ⟨(Bx.b3 ((hW.block _ (Bx.lt T0)).trans T0)).1, BE.trans (hW.mono BE.size)⟩
  have AT : Hid (∀ W, Below w.heap.size w W → ∀ j (hj : j < l.length), ∃ g1 o, A = some ⟨g1, o, none⟩ ∧ (W.cell? ⟨g1, o + j * 4, none⟩ = some (.int .i64 l[j].1.1) ∧ W.cell? ⟨g1, o + j * 4 + 1, none⟩ = some (.int .i64 l[j].1.2.1) ∧ W.cell? ⟨g1, o + j * 4 + 2, none⟩ = some (.int .i64 l[j].1.2.2) ∧ W.cell? ⟨g1, o + j * 4 + 3, none⟩ = some (.int .i64 l[j].2))) := Lib.hid fun W hW j hj => by
    obtain ⟨g1, o, e1, hg, a0, a1, a2, a3⟩ := hit_at R (List.getElem?_eq_getElem hj)
    have ca := fun k => hW.cell (p := ⟨g1, k, none⟩) hg
    exact ⟨g1, o, e1, (ca _).trans a0, (ca _).trans a1, (ca _).trans a2, (ca _).trans a3⟩
  have ST := Lib.hid fun j (hj : j < l.length) => Sy.sumH_take (s, i, g) hj
  have BD : Hid (∀ j, 0 ≤ Sy.sumH (l.take j) (s, i, g) ∧ Sy.sumH (l.take j) (s, i, g) ≤ 1073741824 * 1000) := Lib.hid fun j => by
    have := Sy.sumH_bd (s, i, g) (l := l.take j) fun x hx => hb x (List.mem_of_mem_take hx)
    have h2 : (l.take j).length ≤ 1000 := by rw [List.length_take]; omega
    omega
  have XB := Lib.hid fun j (hj : j < l.length) => hb l[j] (List.getElem_mem hj)
  have hn : (l.length : Int) ≤ 1000 := by omega
  clear R hb T0 BE
  go_enter Try.func28, Try.ntmps28
  go_upto_region 1 with fail
  generalize w.alloc (.cells #[.int .i64 s, .int .i64 i, .int .i64 g] 32) = w1 at *
  go_wp2
  go_loopw [5, 6] (fun n k wr => ∃ j : Nat, j ≤ l.length ∧ k = .int .i64 j ∧ n = .int .i64 (Sy.sumH (l.take j) (s, i, g)) ∧ Hid (Below w1.heap.size w1 wr)) (fun _ k _ => l.length - (intOf k).toNat)
  case atStart => exact ⟨0, Nat.zero_le _, rfl, rfl, Lib.hid (Below.refl _ _)⟩
  case round =>
    obtain ⟨j, hj, rfl, rfl, HB⟩ := hrel
    by_cases hjn : j < l.length
    · have t1 : (j : Int) < (l.length : Int) := by omega
      obtain ⟨⟨i0, i1, i2⟩, hbw⟩ := IDC.out wr HB.out
      obtain ⟨g1, o, hA, h0, h1, h2, h3⟩ := AT.out wr hbw j hjn
      have NX : Hid (∀ m, Below w1.heap.size w1 (wr.drewN m)) := Lib.hid fun m => Below.dn' HB.out m
      have SN := ST.out j hjn
      have BJ := BD.out j
      have XJ := XB.out j hjn
      subst hA
      clear AT HB ST BD XB IDC hbw
      generalize l[j] = z at *
      obtain ⟨⟨z0, z1, z2⟩, z3⟩ := z
      dsimp only at h0 h1 h2 h3 SN XJ
      generalize Sy.sumH (l.take j) (s, i, g) = n0 at *
      have EQ := fun V => eq_id 9998 z0 z1 z2 s i g V
      simp only [Nat.reduceAdd] at EQ
      by_cases he : (z0, z1, z2) = (s, i, g)
      · rw [if_pos he] at SN
        have e1 : ((z0 == s) && ((z1 == i) && (z2 == g))) = true := by
          simp only [Prod.mk.injEq] at he
          simp [he.1, he.2.1, he.2.2]
        rw [e1] at EQ
        have s1 : IntKind.i64.wrap (n0 + z3) = n0 + z3 := IntWalk.i64_in _ ⟨by omega, by omega⟩
        clear he e1
        generalize l.length = nn at *
        go_wp2
        go_quiet (fail)
        go_wp2
        go_roundw
        case rel => exact ⟨j + 1, by omega, by go_num, by rw [SN], Lib.hid (NX.out _)⟩
        case measure => simp [intOf]; omega
      · rw [if_neg he] at SN
        have e1 : ((z0 == s) && ((z1 == i) && (z2 == g))) = false := by
          rw [Bool.eq_false_iff]
          intro h
          simp only [Bool.and_eq_true, beq_iff_eq] at h
          exact he (by rw [h.1, h.2.1, h.2.2])
        rw [e1] at EQ
        clear he e1
        generalize l.length = nn at *
        go_wp2
        go_quiet (fail)
        go_wp2
        go_roundw
        case rel => exact ⟨j + 1, by omega, by go_num, by rw [SN], Lib.hid (NX.out _)⟩
        case measure => simp [intOf]; omega
    · obtain rfl : j = l.length := by omega
      have t1 : ¬ (l.length : Int) < (l.length : Int) := by omega
      have hbw := Lib.hid (IDC.out wr HB.out).2
      rw [List.take_length]
      clear AT ST BD XB IDC
      generalize l.length = n at *
      go_wp2
      go_ret
      exact ⟨rfl, hbw.out⟩
end Go.Proofs.Ytfmbldjaknjgbaa
namespace Go.Proofs.Ytfmbldjaknjgbaa
open Go.RowKit Pz Sp
set_option linter.unusedVariables false
set_option linter.unusedSimpArgs false

set_option maxHeartbeats 16000000 in
set_option maxRecDepth 100000 in
theorem unlike_any {w : World} {A : Option Addr} {c : Nat} {l : List Bn} (R : RdB w w.heap.size A l) (hc : l.length ≤ c) (hcap : c ≤ 140737488351232) (hF : ∀ x ∈ l, Fit x.m) :
    Calls Try.prog 27 #[.slice A l.length c] w fun e w' => ∃ (U : List Bn) (A' : Option Addr) (c' : Nat), e = .returned (.slice A' U.length c') ∧ OwnB w' w.heap.size (.slice A' U.length c') U ∧ (∀ z ∈ U, may z = true ∧ Fit z.m) ∧ U.length ≤ 60 ∧ Below w.heap.size w w' := by
  have FW := Lib.hid (few_any R hc hcap)
  obtain ⟨x, hx⟩ : ∃ x, x = l.take 60 := ⟨_, rfl⟩
  have nx : x.length ≤ 60 := by rw [hx, List.length_take]; omega
  have Rx : Hid (∀ W, Below w.heap.size w W → RdB W W.heap.size A x) := Lib.hid fun W hW => by rw [hx]; exact ((R.take 60).below hW).more hW.size
  have fx : Hid (∀ z ∈ x, Fit z.m) := Lib.hid fun z hz => hF z (List.mem_of_mem_take (hx ▸ hz))
  rw [← hx] at FW
  clear hx R hF hc hcap
  generalize l.length = m1 at *
  go_enter Try.func27, Try.ntmps27
  go_upto_region 4 with (go_at_call 11; refine FW.out.mono ?_; rintro e w1 ⟨⟨d1, rfl, _, _⟩, rfl⟩; clear FW)
  go_loopw [3, 4] (fun v s wr => ∃ (j : Nat) (U : List Bn), j ≤ x.length ∧ s = .int .i64 j ∧ U.length ≤ j ∧ Hid ((∀ z ∈ U, may z = true ∧ Fit z.m) ∧ OwnB wr w.heap.size v U ∧ Below w.heap.size w wr)) (fun _ s _ => x.length - (intOf s).toNat)
  case atStart => exact ⟨0, [], by omega, rfl, by simp, Lib.hid ⟨by simp, rw_nil _ _, Below.refl _ _⟩⟩
  case round =>
    obtain ⟨j, U, hj, rfl, hU, HP⟩ := hrel
    by_cases hlt : j < x.length
    · have t1 : (j : Int) < (x.length : Int) := by omega
      obtain ⟨Ao, co, rfl⟩ := HP.out.2.1.form
      have hxj := List.getElem?_eq_getElem hlt
      obtain ⟨g, o, hA, _, z0, z1, z2, z3, z4, z5, z6, z7, z8, z9, z10⟩ := Rx.out wr HP.out.2.2 j _ hxj
      subst hA
      have QC : Hid (∀ W, Below w.heap.size w W → W.cell? ⟨g, o + j * 11, none⟩ = some (.int .i64 x[j].s) ∧ W.cell? ⟨g, o + j * 11 + 1, none⟩ = some (.int .i64 x[j].i) ∧ W.cell? ⟨g, o + j * 11 + 2, none⟩ = some (.int .i64 x[j].g) ∧ W.cell? ⟨g, o + j * 11 + 3, none⟩ = some (.int .i64 x[j].m) ∧ W.cell? ⟨g, o + j * 11 + 4, none⟩ = some (.int .i64 x[j].x) ∧ W.cell? ⟨g, o + j * 11 + 5, none⟩ = some (.int .i64 x[j].y) ∧ W.cell? ⟨g, o + j * 11 + 6, none⟩ = some (.int .i64 x[j].vx) ∧ W.cell? ⟨g, o + j * 11 + 7, none⟩ = some (.int .i64 x[j].vy) ∧ W.cell? ⟨g, o + j * 11 + 8, none⟩ = some (.int .i64 x[j].h) ∧ W.cell? ⟨g, o + j * 11 + 9, none⟩ = some (.int .i64 x[j].p) ∧ W.cell? ⟨g, o + j * 11 + 10, none⟩ = some (.int .i64 x[j].l)) := Lib.hid fun W hW => by
        obtain ⟨g', o', e, _, h⟩ := Rx.out W hW j _ hxj
        cases e
        exact h
      have fj := fx.out x[j] (List.getElem_mem hlt)
      clear Rx fx hxj
      generalize x[j] = b at *
      obtain ⟨qs, qi, qg, qm, qx, qy, qvx, qvy, qh, qp, ql⟩ := b
      have MX := Lib.hid fun W => may_any ⟨qs, qi, qg, qm, qx, qy, qvx, qvy, qh, qp, ql⟩ fj W
      obtain ⟨mb, hmb⟩ : ∃ mb, may ⟨qs, qi, qg, qm, qx, qy, qvx, qvy, qh, qp, ql⟩ = mb := ⟨_, rfl⟩
      rw [hmb] at MX
      replace hmb := Lib.hid hmb
      replace fj := Lib.hid fj
      dsimp only [Bn.val] at z0 z1 z2 z3 z4 z5 z6 z7 z8 z9 z10 QC MX
      go_upto_region 8 with (go_at_call 31; refine (MX.out _).mono ?_; rintro e w2 ⟨rfl, b2⟩; clear MX z0 z1 z2 z3 z4 z5 z6 z7 z8 z9 z10; replace HP := Lib.hid (And.intro HP.out.1 (And.intro (HP.out.2.1.below b2) (HP.out.2.2.trans (b2.mono HP.out.2.2.size)))); clear b2)
      go_loopw [5, 6] (fun f k ws => ∃ (p : Bool) (m : Nat), m ≤ U.length ∧ k = .int .i64 m ∧ f = .bool p ∧ Hid ((p = true → mb = true) ∧ Below w2.heap.size w2 ws)) (fun _ k _ => U.length - (intOf k).toNat)
      case atStart => exact ⟨mb, 0, by omega, rfl, rfl, Lib.hid ⟨id, Below.refl _ _⟩⟩
      case round =>
        obtain ⟨p, m, hm, rfl, rfl, HM⟩ := hrel
        have BW := Lib.hid (HP.out.2.2.trans (HM.out.2.mono HP.out.2.2.size))
        by_cases hmu : m < U.length
        · have t2 : (m : Int) < (U.length : Int) := by omega
          have tU : (U.length : Int) ≤ 60 := by omega
          obtain ⟨q0, q1, q2, _⟩ := QC.out wr BW.out
          obtain ⟨g2, o2, e2, _, u0, u1, u2, _⟩ := (RdB.of_own (HP.out.2.1.below HM.out.2)) m _ (List.getElem?_eq_getElem hmu)
          cases e2
          have NX : Hid (∀ n, Below w2.heap.size w2 (wr.drewN n)) := Lib.hid fun n => Below.dn' HM.out.2 n
          have PMp := HM.out.1
          clear HP QC BW HM
          generalize U[m] = z at *
          obtain ⟨z0, z1, z2, z3, z4, z5, z6, z7, z8, z9, z10⟩ := z
          dsimp only at u0 u1 u2
          generalize U.length = nu at *
          generalize x.length = nn at *
          have EQ := fun V => eq_id 9998 z0 z1 z2 qs qi qg V
          simp only [Nat.reduceAdd] at EQ
          cases p with
          | false =>
            have PM : Hid (false = true → mb = true) := Lib.hid fun h => by cases h
            clear PMp EQ
            go_wp2
            go_quiet (fail)
            go_wp2
            go_roundw
            case rel => exact ⟨false, m + 1, by omega, by go_num, rfl, Lib.hid ⟨fun h => by first | exact PM.out h | exact PM.out trivial, NX.out _⟩⟩
            case measure => simp [intOf]; omega
          | true =>
            obtain ⟨eb, heb⟩ : ∃ eb, ((z0 == qs) && ((z1 == qi) && (z2 == qg))) = eb := ⟨_, rfl⟩
            rw [heb] at EQ
            clear heb
            cases eb with
            | false =>
              have PM : Hid (true = true → mb = true) := Lib.hid PMp
              clear PMp
              go_wp2
              go_quiet (fail)
              go_wp2
              go_roundw
              case rel => exact ⟨true, m + 1, by omega, by go_num, rfl, Lib.hid ⟨fun h => by first | exact PM.out h | exact PM.out trivial, NX.out _⟩⟩
              case measure => simp [intOf]; omega
            | true =>
              have PM : Hid (false = true → mb = true) := Lib.hid fun h => by cases h
              clear PMp
              go_wp2
              go_quiet (fail)
              go_wp2
              go_roundw
              case rel => exact ⟨false, m + 1, by omega, by go_num, rfl, Lib.hid ⟨fun h => by first | exact PM.out h | exact PM.out trivial, NX.out _⟩⟩
              case measure => simp [intOf]; omega
        · obtain rfl : m = U.length := by omega
          have t2 : ¬ ((U.length : Int) < (U.length : Int)) := by omega
          cases p with
          | false =>
            have HN := Lib.hid (And.intro HP.out.1 (And.intro (HP.out.2.1.below HM.out.2) BW.out))
            clear HP HM BW QC
            go_wp2
            go_roundw
            case rel => exact ⟨j + 1, U, by omega, by go_num, by omega, HN⟩
            case measure => simp [intOf]; omega
          | true =>
            obtain ⟨k0, k1, k2, k3, k4, k5, k6, k7, k8, k9, k10⟩ := QC.out wr BW.out
            obtain ⟨v', w', hr, ho, hbw⟩ := push_bn wr (HP.out.2.1.below HM.out.2) BW.out.size (by omega) ⟨qs, qi, qg, qm, qx, qy, qvx, qvy, qh, qp, ql⟩ 22
            have HN : Hid ((∀ z ∈ U ++ [⟨qs, qi, qg, qm, qx, qy, qvx, qvy, qh, qp, ql⟩], may z = true ∧ Fit z.m) ∧ OwnB w' w.heap.size v' (U ++ [⟨qs, qi, qg, qm, qx, qy, qvx, qvy, qh, qp, ql⟩]) ∧ Below w.heap.size w w') := Lib.hid ⟨fun z hz => by
              rcases List.mem_append.1 hz with h | h
              · exact HP.out.1 z h
              · rw [List.mem_singleton.1 h]; exact ⟨by rw [hmb.out]; exact HM.out.1 rfl, fj.out⟩, ho, BW.out.trans hbw⟩
            dsimp only at hr
            replace hr := Lib.hid hr
            clear ho hbw HP HM BW QC
            have hl1 : (U ++ [(⟨qs, qi, qg, qm, qx, qy, qvx, qvy, qh, qp, ql⟩ : Bn)]).length ≤ j + 1 := by rw [List.length_append]; exact Nat.succ_le_succ hU
            go_wp2_with (at_builtin; refine wpList_append _ rfl (.tmp 41) (.tmp 46) _ _ rfl _ _ rfl rfl _ _ hr.out ?_)
            go_roundw
            case rel => exact ⟨j + 1, _, by omega, by go_num, hl1, HN⟩
            case measure => simp [intOf]; omega
    · obtain rfl : j = x.length := by omega
      have t1 : ¬ ((x.length : Int) < (x.length : Int)) := by omega
      obtain ⟨Ao, co, rfl⟩ := HP.out.2.1.form
      have hl1 : U.length ≤ 60 := by omega
      clear Rx fx
      generalize x.length = nn at *
      go_wp2
      go_ret
      exact ⟨U, Ao, co, rfl, HP.out.2.1, HP.out.1, hl1, HP.out.2.2⟩
end Go.Proofs.Ytfmbldjaknjgbaa
