/- The code: Grow of none, Concat of two rows of entities. Written by wip/tools/gensy.py. -/
import Derived.Test.YtfmbldjaknjgbaaKSoC
import Derived.Test.YtfmbldjaknjgbaaKScA
import Derived.Lib.AppendZeros
namespace Go.Proofs.Ytfmbldjaknjgbaa
open Go.RowKit Pz Sp
set_option linter.unusedVariables false
set_option linter.unusedSimpArgs false

/-- a row behind a row -/
theorem app_row {W : World} {B : Nat} {v : Value} {l y : List Bn} (h : OwnB W B v l) (hB : B ≤ W.heap.size) {A : Option Addr} {cap : Nat} (R : RdB W W.heap.size A y) (hl : l.length + y.length ≤ 1000000) (ty : TypeId) :
    ∃ A' c' w', (Builtin.append_ #[22, 22] ty #[v, .slice A y.length cap]).run Try.prog W = .ok (.slice A' (l.length + y.length) c') w' ∧ OwnB w' B (.slice A' (l.length + y.length) c') (l ++ y) ∧ Below B W w' := by
  cases hyy : y with
  | nil =>
    subst hyy
    simp only [List.length_nil, Nat.add_zero, List.append_nil]
    obtain ⟨i, hi, hz, h2, h3⟩ := info_parts bundle_info
    rcases id h with ⟨rfl, rfl⟩ | ⟨g, off, cp, cur, rfl, h1, h4, h5, _⟩
    · refine ⟨none, 0, W, ?_, h, Below.refl _ _⟩
      cases A <;> simp [Builtin.append_, run_underlying Try.underlying22, sizeOf, typeInfo, hi, Builtin.lenOf, Builtin.firstCells, storeCells, loadCells, loadCellsFrom]
    · refine ⟨_, cp, W, ?_, h, Below.refl _ _⟩
      cases A <;> simp [Builtin.append_, run_underlying Try.underlying22, sizeOf, typeInfo, hi, Builtin.lenOf, Builtin.firstCells, storeCells, loadCells, loadCellsFrom, h5]
  | cons x0 r0 =>
    rw [← hyy]
    obtain ⟨g, o, rfl, _⟩ := R 0 x0 (by rw [hyy]; rfl)
    have hpos : 0 < y.length := by rw [hyy]; simp
    obtain ⟨v', w', hr, ho, hg, hb⟩ := h.app (P := Try.prog) (t := 22) (ty := ty) Try.underlying22 bundle_info rfl (by decide) bnE_len bnE_one hB y ⟨g, o, none⟩ cap (fun j x hj => by
      obtain ⟨g', o', e, hg, KS⟩ := R j x hj
      cases e
      intro c u hu
      have hc : c < 11 := (List.getElem?_eq_some_iff.1 hu).1
      rw [Addr.add_mid, ← Nat.add_assoc]
      obtain ⟨k0, k1, k2, k3, k4, k5, k6, k7, k8, k9, k10⟩ := KS
      have : c = 0 ∨ c = 1 ∨ c = 2 ∨ c = 3 ∨ c = 4 ∨ c = 5 ∨ c = 6 ∨ c = 7 ∨ c = 8 ∨ c = 9 ∨ c = 10 := by omega
      rcases this with rfl | rfl | rfl | rfl | rfl | rfl | rfl | rfl | rfl | rfl | rfl
      · have e1 : u = .int .i64 x.s := by simpa [bnE] using hu.symm
        rw [e1]
        exact k0
      · have e1 : u = .int .i64 x.i := by simpa [bnE] using hu.symm
        rw [e1]
        exact k1
      · have e1 : u = .int .i64 x.g := by simpa [bnE] using hu.symm
        rw [e1]
        exact k2
      · have e1 : u = .int .i64 x.m := by simpa [bnE] using hu.symm
        rw [e1]
        exact k3
      · have e1 : u = .int .i64 x.x := by simpa [bnE] using hu.symm
        rw [e1]
        exact k4
      · have e1 : u = .int .i64 x.y := by simpa [bnE] using hu.symm
        rw [e1]
        exact k5
      · have e1 : u = .int .i64 x.vx := by simpa [bnE] using hu.symm
        rw [e1]
        exact k6
      · have e1 : u = .int .i64 x.vy := by simpa [bnE] using hu.symm
        rw [e1]
        exact k7
      · have e1 : u = .int .i64 x.h := by simpa [bnE] using hu.symm
        rw [e1]
        exact k8
      · have e1 : u = .int .i64 x.p := by simpa [bnE] using hu.symm
        rw [e1]
        exact k9
      · have e1 : u = .int .i64 x.l := by simpa [bnE] using hu.symm
        rw [e1]
        exact k10
      ) hl (by decide) (.inl hpos)
    obtain ⟨A', c', hv⟩ := ho.form
    rw [List.length_append] at hv
    subst hv
    exact ⟨A', c', w', hr, ho, (Below.refl B W).grown hg hB (fun k hk => (h.blk hk).1)⟩
set_option maxHeartbeats 4000000 in
set_option maxRecDepth 100000 in
theorem grow_nil (n : Nat) (hn : n ≤ 2000) (w : World) :
    Calls Try.prog 80 #[.slice none 0 0, .int .i64 n] w fun e V => ∃ A c, e = .returned (.slice A 0 c) ∧ OwnB V w.heap.size (.slice A 0 c) [] ∧ Below w.heap.size w V := by
  have t1 : ¬ ((n : Int) < 0) := by omega
  have t2 : IntKind.i64.wrap (n : Int) = n := IntWalk.i64_in _ ⟨by omega, by omega⟩
  by_cases h0 : n = 0
  · subst h0
    go_enter Try.func80, Try.ntmps80
    go_wp2
    go_ret
    exact ⟨none, 0, rfl, .inl ⟨rfl, rfl⟩, Below.refl _ _⟩
  · have t3 : (n : Int) > 0 := by omega
    obtain ⟨i, hi, hz, h2, h3⟩ := info_parts bundle_info
    have hr := fun ty => Lib.run_append_nil_zeros (P := Try.prog) w 22 3 ty 34 i _ .i64 .i64 Try.underlying22 Try.underlying3 hi hz n (by omega) (by rw [h2]; decide) (by omega) (by rw [h3]; omega)
    have hge := grownCap_ge w n 0 34
    have hcm : grownCap w n 0 34 ≤ maxLen := grownCap_le_maxLen w n 0 34 (by unfold maxLen; omega)
    have hsz : ∀ (zc : Array Value) (a b : Nat), zc.size = 11 → (Builtin.zeroCells zc a ++ Builtin.zeroCells zc b).size = (a + b) * 11 := fun zc a b e => by simp only [Array.size_append, size_zeroCells, e, ← Nat.add_mul]
    have FIN : Hid (OwnB (w.drew.alloc (.cells (Builtin.zeroCells (Value.cells (.agg #[.int .i64 0, .int .i64 0, .int .i64 0, .int .i64 0, .int .i64 0, .int .i64 0, .int .i64 0, .int .i64 0, .int .i64 0, .int .i64 0, .int .i64 0])) n ++ Builtin.zeroCells (Value.cells (.agg #[.int .i64 0, .int .i64 0, .int .i64 0, .int .i64 0, .int .i64 0, .int .i64 0, .int .i64 0, .int .i64 0, .int .i64 0, .int .i64 0, .int .i64 0])) (grownCap w n 0 34 - n)) 34)) w.heap.size (.slice (some ⟨w.heap.size, 0, none⟩) 0 (grownCap w n 0 34)) [] ∧ Below w.heap.size w (w.drew.alloc (.cells (Builtin.zeroCells (Value.cells (.agg #[.int .i64 0, .int .i64 0, .int .i64 0, .int .i64 0, .int .i64 0, .int .i64 0, .int .i64 0, .int .i64 0, .int .i64 0, .int .i64 0, .int .i64 0])) n ++ Builtin.zeroCells (Value.cells (.agg #[.int .i64 0, .int .i64 0, .int .i64 0, .int .i64 0, .int .i64 0, .int .i64 0, .int .i64 0, .int .i64 0, .int .i64 0, .int .i64 0, .int .i64 0])) (grownCap w n 0 34 - n)) 34))) := Lib.hid (by
      refine ⟨.inr ⟨w.heap.size, 0, _, _, rfl, Nat.le_refl _, heap_alloc_new w.drew _, Nat.zero_le _, hcm, ?_, fun j x hj => by simp at hj⟩, ((Below.refl _ _).drew).alloc (Nat.le_refl _) _⟩
      rw [hsz _ _ _ rfl]
      omega)
    have HR := Lib.hid hr
    clear hr hsz hcm hi hz h2 h3
    generalize w.drew.alloc (.cells (Builtin.zeroCells (Value.cells (.agg #[.int .i64 0, .int .i64 0, .int .i64 0, .int .i64 0, .int .i64 0, .int .i64 0, .int .i64 0, .int .i64 0, .int .i64 0, .int .i64 0, .int .i64 0])) n ++ Builtin.zeroCells (Value.cells (.agg #[.int .i64 0, .int .i64 0, .int .i64 0, .int .i64 0, .int .i64 0, .int .i64 0, .int .i64 0, .int .i64 0, .int .i64 0, .int .i64 0, .int .i64 0])) (grownCap w n 0 34 - n)) 34) = V at *
    generalize grownCap w n 0 34 = G at *
    go_enter Try.func80, Try.ntmps80
    go_wp2_with (at_builtin; refine Lib.wpList_append_run _ rfl _ _ _ _ rfl _ _ rfl rfl _ _ (HR.out _) ?_)
    go_ret
    exact ⟨_, _, rfl, FIN.out.1, FIN.out.2⟩
set_option maxHeartbeats 4000000 in
set_option maxRecDepth 100000 in
theorem concat_any {w : World} {A A2 : Option Addr} {c c2 cz : Nat} {own others : List Bn} (R : RdB w w.heap.size A own) (R2 : RdB w w.heap.size A2 others) (hl : own.length ≤ 1000) (hl2 : others.length ≤ 1000) {g : Nat} (hg : w.heap[g]? = some (.cells #[.slice A own.length c, .slice A2 others.length c2] 22 (0, 0))) :
    Calls Try.prog 63 #[.slice (some ⟨g, 0, none⟩) 2 cz] w fun e V => ∃ A' c', e = .returned (.slice A' (own.length + others.length) c') ∧ OwnB V w.heap.size (.slice A' (own.length + others.length) c') (own ++ others) ∧ Below w.heap.size w V := by
  have HG := Lib.hid fun V (hV : Below w.heap.size w V) => (hV.block g (Bx.lt hg)).trans hg
  obtain ⟨⟨k0, k1⟩, _⟩ := Bx.b2 hg
  have GW : Hid (Calls Try.prog 80 #[.slice none 0 0, .int .i64 ((own.length : Int) + (others.length : Int))] w fun e V => ∃ A c, e = .returned (.slice A 0 c) ∧ OwnB V w.heap.size (.slice A 0 c) [] ∧ Below w.heap.size w V) := Lib.hid (by
    have := grow_nil (own.length + others.length) (by omega) w
    rw [Int.natCast_add] at this
    exact this)
  have P1 : Hid (∀ V v, Below w.heap.size w V → OwnB V w.heap.size v [] → ∃ A' c' w', (∀ ty, (Builtin.append_ #[22, 22] ty #[v, .slice A own.length c]).run Try.prog V = .ok (.slice A' own.length c') w') ∧ Hid (OwnB w' w.heap.size (.slice A' own.length c') own) ∧ Hid (Below w.heap.size w w')) := Lib.hid fun V v hV ho => by
    obtain ⟨A', c', w', h1, h2, h3⟩ := app_row (cap := c) ho hV.size ((R.below hV).more hV.size) (by simp; omega) 22
    simp only [List.length_nil, Nat.zero_add, List.nil_append] at h1 h2
    exact ⟨A', c', w', fun _ => h1, Lib.hid h2, Lib.hid (hV.trans h3)⟩
  have P2 : Hid (∀ V v, Below w.heap.size w V → OwnB V w.heap.size v own → ∃ A' c' w', (∀ ty, (Builtin.append_ #[22, 22] ty #[v, .slice A2 others.length c2]).run Try.prog V = .ok (.slice A' (own.length + others.length) c') w') ∧ Hid (OwnB w' w.heap.size (.slice A' (own.length + others.length) c') (own ++ others)) ∧ Hid (Below w.heap.size w w')) := Lib.hid fun V v hV ho => by
    obtain ⟨A', c', w', h1, h2, h3⟩ := app_row (cap := c2) ho hV.size ((R2.below hV).more hV.size) (by omega) 22
    exact ⟨A', c', w', fun _ => h1, Lib.hid h2, Lib.hid (hV.trans h3)⟩
  clear R R2 hg
  generalize own.length = n1 at *
  generalize others.length = n2 at *
  generalize own ++ others = all at *
  have u1 : IntKind.i64.wrap (n1 : Int) = n1 := IntWalk.i64_in _ ⟨by omega, by omega⟩
  have u2 : IntKind.i64.wrap ((n1 : Int) + (n2 : Int)) = (n1 : Int) + (n2 : Int) := IntWalk.i64_in _ ⟨by omega, by omega⟩
  have t1 : ¬ ((n1 : Int) < 0) := by omega
  have t2 : ¬ ((n1 : Int) + (n2 : Int) < 0) := by omega
  go_enter Try.func63, Try.ntmps63
  go_wp2
  go_loop [3, 11] (fun s i => (s = .int .i64 0 ∧ i = .int .i64 0) ∨ (s = .int .i64 n1 ∧ i = .int .i64 1) ∨ (s = .int .i64 ((n1 : Int) + (n2 : Int)) ∧ i = .int .i64 2)) (fun _ i => 2 - (intOf i).toNat)
  case atStart => exact .inl ⟨rfl, rfl⟩
  case round =>
    rcases hrel with ⟨rfl, rfl⟩ | ⟨rfl, rfl⟩ | ⟨rfl, rfl⟩
    · go_wp2
      go_round
      case rel => exact .inr (.inl ⟨rfl, rfl⟩)
      case measure => simp [intOf]
    · go_wp2
      go_round
      case rel => exact .inr (.inr ⟨rfl, rfl⟩)
      case measure => simp [intOf]
    · go_wp2_with (go_at_call 80; with_reducible refine GW.out.mono ?_; rintro e w1 ⟨A0, c0, rfl, ho, hb⟩; have HO := Lib.hid ho; have HB := Lib.hid hb; clear ho hb GW k0 k1)
      go_loopw [6, 27] (fun v i wr => ∃ A' c', Hid (Below w.heap.size w wr) ∧ ((v = .slice A' 0 c' ∧ i = .int .i64 0 ∧ Hid (OwnB wr w.heap.size (.slice A' 0 c') [])) ∨ (v = .slice A' n1 c' ∧ i = .int .i64 1 ∧ Hid (OwnB wr w.heap.size (.slice A' n1 c') own)) ∨ (v = .slice A' (n1 + n2) c' ∧ i = .int .i64 2 ∧ Hid (OwnB wr w.heap.size (.slice A' (n1 + n2) c') all)))) (fun _ i _ => 2 - (intOf i).toNat)
      case atStart => exact ⟨A0, c0, HB, .inl ⟨rfl, rfl, HO⟩⟩
      case round =>
        clear HB HO
        obtain ⟨A', c', HB, ⟨rfl, rfl, HO⟩ | ⟨rfl, rfl, HO⟩ | ⟨rfl, rfl, HO⟩⟩ := hrel
        · obtain ⟨⟨k0, k1⟩, _⟩ := Bx.b2 (HG.out _ HB.out)
          obtain ⟨A3, c3, w3, hr, H3, B3⟩ := P1.out _ _ HB.out HO.out
          have HR := Lib.hid hr
          clear hr
          go_wp2_with (at_builtin; refine Lib.wpList_append_run _ rfl _ _ _ _ rfl _ _ rfl rfl _ _ (HR.out _) ?_)
          go_roundw
          case rel => exact ⟨A3, c3, B3, .inr (.inl ⟨rfl, rfl, H3⟩)⟩
          case measure => simp [intOf]
        · obtain ⟨⟨k0, k1⟩, _⟩ := Bx.b2 (HG.out _ HB.out)
          obtain ⟨A3, c3, w3, hr, H3, B3⟩ := P2.out _ _ HB.out HO.out
          have HR := Lib.hid hr
          clear hr
          go_wp2_with (at_builtin; refine Lib.wpList_append_run _ rfl _ _ _ _ rfl _ _ rfl rfl _ _ (HR.out _) ?_)
          go_roundw
          case rel => exact ⟨A3, c3, B3, .inr (.inr ⟨rfl, rfl, H3⟩)⟩
          case measure => simp [intOf]
        · go_wp2
          go_ret
          exact ⟨A', c', rfl, HO.out, HB.out⟩
end Go.Proofs.Ytfmbldjaknjgbaa
