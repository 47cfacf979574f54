/- The code's Sorted: a copy, sorted. Written by wip/tools/gensrt.py. -/
import Derived.Test.YtookmjdnmmfkfaaPcStab
import Derived.Test.YtookmjdnmmfkfaaAp
import Derived.Laws.OwnMore
import Derived.Lib.SliceRun
namespace Go.Proofs.Ytookmjdnmmfkfaa
open Go.RowKit Pz
set_option linter.unusedVariables false

/-- an append of entities to a row of none -/
theorem app_bn (W : World) {l : List Bn} {A : Option Addr} {cap : Nat} (R : RdB W W.heap.size A l) (hl : l.length ≤ 1000000) (ty : TypeId) :
    ∃ A' c' w', (Builtin.append_ #[44, 44] ty #[.slice (some ⟨W.heap.size, 0, none⟩) 0 0, .slice A l.length cap]).run Try.prog (W.alloc (.cells #[] 25)) = .ok (.slice A' l.length c') w' ∧
      OwnB w' W.heap.size (.slice A' l.length c') l ∧ Below W.heap.size W w' := by
  have h0 : OwnB (W.alloc (.cells #[] 25)) W.heap.size (.slice (some ⟨W.heap.size, 0, none⟩) 0 0) [] :=
    .inr ⟨W.heap.size, 0, 0, #[], rfl, Nat.le_refl _, at1 W _, Nat.le_refl _, by decide, by simp, fun j x hj => by simp at hj⟩
  cases hll : l with
  | nil =>
    subst hll
    refine ⟨some ⟨W.heap.size, 0, none⟩, 0, W.alloc (.cells #[] 25), ?_, h0, bel1 W _⟩
    obtain ⟨i, hi, hz, h2, h3⟩ := info_parts bundle_info
    cases A <;> simp [Builtin.append_, run_underlying Try.underlying44, sizeOf, typeInfo, hi, Builtin.lenOf, Builtin.firstCells, storeCells, loadCells, loadCellsFrom]
  | cons x0 r0 =>
    rw [← hll]
    obtain ⟨g, o, rfl, _⟩ := R 0 x0 (by rw [hll]; rfl)
    have hpos : 0 < l.length := by rw [hll]; simp
    obtain ⟨v', w', hr, ho, hg, hb⟩ := h0.app (P := Try.prog) (t := 44) (ty := ty) Try.underlying44 bundle_info rfl (by decide) bnE_len bnE_one (by rw [size1]; omega) l ⟨g, o, none⟩ cap (fun j x hj => by
      obtain ⟨g', o', e, hg, KS⟩ := (R.below (bel1 W (.cells #[] 25))) j x hj
      cases e
      intro c u hu
      have hc : c < 11 := (List.getElem?_eq_some_iff.1 hu).1
      rw [Addr.add_mid, ← Nat.add_assoc]
      have : c = 0 ∨ c = 1 ∨ c = 2 ∨ c = 3 ∨ c = 4 ∨ c = 5 ∨ c = 6 ∨ c = 7 ∨ c = 8 ∨ c = 9 ∨ c = 10 := by omega
      rcases this with rfl | rfl | rfl | rfl | rfl | rfl | rfl | rfl | rfl | rfl | rfl
      · have e1 : u = .int .i64 x.s := by simpa [bnE] using hu.symm
        rw [e1]
        exact KS.1
      · have e1 : u = .int .i64 x.i := by simpa [bnE] using hu.symm
        rw [e1]
        exact KS.2.1
      · have e1 : u = .int .i64 x.g := by simpa [bnE] using hu.symm
        rw [e1]
        exact KS.2.2.1
      · have e1 : u = .int .i64 x.m := by simpa [bnE] using hu.symm
        rw [e1]
        exact KS.2.2.2.1
      · have e1 : u = .int .i64 x.x := by simpa [bnE] using hu.symm
        rw [e1]
        exact KS.2.2.2.2.1
      · have e1 : u = .int .i64 x.y := by simpa [bnE] using hu.symm
        rw [e1]
        exact KS.2.2.2.2.2.1
      · have e1 : u = .int .i64 x.vx := by simpa [bnE] using hu.symm
        rw [e1]
        exact KS.2.2.2.2.2.2.1
      · have e1 : u = .int .i64 x.vy := by simpa [bnE] using hu.symm
        rw [e1]
        exact KS.2.2.2.2.2.2.2.1
      · have e1 : u = .int .i64 x.h := by simpa [bnE] using hu.symm
        rw [e1]
        exact KS.2.2.2.2.2.2.2.2.1
      · have e1 : u = .int .i64 x.p := by simpa [bnE] using hu.symm
        rw [e1]
        exact KS.2.2.2.2.2.2.2.2.2.1
      · have e1 : u = .int .i64 x.l := by simpa [bnE] using hu.symm
        rw [e1]
        exact KS.2.2.2.2.2.2.2.2.2.2
      ) (by simpa using hl) (by decide) (.inl hpos)
    obtain ⟨A', c', hv⟩ := ho.form
    rw [List.nil_append] at ho hv
    subst hv
    exact ⟨A', c', w', hr, ho, ((Below.refl W.heap.size W).alloc (Nat.le_refl _) _).grown hg (by rw [size1]; omega) (fun k hk => (h0.blk hk).1)⟩
set_option maxHeartbeats 16000000 in
set_option maxRecDepth 100000 in
theorem clone_any {w : World} {l : List Bn} {A : Option Addr} {cap : Nat} (R : RdB w w.heap.size A l) (hl : l.length ≤ 1000000) :
    Calls Try.prog 40 #[.slice A l.length cap] w fun e w' => (∃ A' c', e = .returned (.slice A' l.length c') ∧ OwnB w' w.heap.size (.slice A' l.length c') l) ∧ Below w.heap.size w w' := by
  obtain ⟨A', c', w2, hr, ho, hb⟩ := app_bn w (cap := cap) R hl 44
  have HR := Lib.hid hr
  have HO := Lib.hid ho
  have HB := Lib.hid hb
  have N0 : Hid (A = none → l = []) := Lib.hid fun e => by
    cases l with
    | nil => rfl
    | cons x r =>
      obtain ⟨g, o, e2, _⟩ := R 0 x rfl
      rw [e] at e2
      cases e2
  have EQN := fun (W : World) (a : Option Addr) (n c : Nat) => Lib.run_eql_slice_nil (P := Try.prog) W 44 25 a n c 0 0 Try.underlying44
  clear R hr ho hb
  cases A with
  | none =>
    have e := N0.out rfl
    subst e
    go_enter Try.func40, Try.ntmps40
    go_wp2
    go_ret
    exact ⟨⟨none, 0, rfl, .inl ⟨rfl, rfl⟩⟩, Below.refl _ _⟩
  | some a =>
    generalize hn : l.length = n at *
    go_enter Try.func40, Try.ntmps40
    go_wp2_with (at_builtin; refine wpList_append _ rfl (.tmp 5) (.tmp 6) _ _ rfl _ _ rfl rfl _ _ HR.out ?_; clear HR)
    go_ret
    exact ⟨⟨A', c', rfl, HO.out⟩, HB.out⟩
set_option maxHeartbeats 16000000 in
set_option maxRecDepth 100000 in
theorem sorted_any {w : World} {l : List Bn} {A : Option Addr} {cap : Nat} (R : RdB w w.heap.size A l) (hl : l.length ≤ 1000000) :
    Calls Try.prog 26 #[.slice A l.length cap] w fun e w' => (∃ A' c', e = .returned (.slice A' l.length c') ∧ OwnB w' w.heap.size (.slice A' l.length c') (sortL l)) ∧ Below w.heap.size w w' := by
  have C1 := Lib.hid (clone_any (cap := cap) R hl)
  have S1 : Hid (∀ (A' : Option Addr) (c' : Nat) (W : World), OwnB W w.heap.size (.slice A' l.length c') l → Below w.heap.size w W → Calls Try.prog 41 #[.slice A' l.length c', .func (.func 42) #[] #[]] W fun e w' => e = .returned (.tuple #[]) ∧ OwnB w' w.heap.size (.slice A' l.length c') (sortL l) ∧ Below w.heap.size w w') := Lib.hid fun A' c' W ho hb => by
    refine (sortstable_any (B := w.heap.size) (w := W) ⟨ho, rfl, Below.refl _ _⟩ hl hb.size).mono ?_
    rintro e w' ⟨he, hr⟩
    exact ⟨he, hr.own, hb.trans hr.bel⟩
  generalize hn : l.length = n at *
  generalize sortL l = G at *
  clear hn R hl
  go_enter Try.func26, Try.ntmps26
  go_wp2_with (first
    | (go_at_call 40; with_reducible refine (C1.out).mono ?_; rintro e w2 ⟨⟨A2, c2, rfl, ho⟩, hb⟩; have S2 := Lib.hid (S1.out A2 c2 w2 ho hb); clear ho hb C1 S1)
    | (go_at_call 41; with_reducible refine (S2.out).mono ?_; rintro e w2 ⟨rfl, ho, hb⟩; have HO := Lib.hid ho; have HB := Lib.hid hb; clear ho hb S2))
  go_ret
  exact ⟨⟨_, _, rfl, HO.out⟩, HB.out⟩
end Go.Proofs.Ytookmjdnmmfkfaa
