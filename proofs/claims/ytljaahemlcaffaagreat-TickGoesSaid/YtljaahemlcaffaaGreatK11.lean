/- The code: one more among those that stand there, ahead of others: in a new row. The code's order of names: cmp.Or, Compare. Written by wip/tools/genpc6.py. Entities put into one's own row. Written by wip/tools/genso.py. -/
import Derived.Test.YtljaahemlcaffaaGreatK10
import Derived.Test.YtljaahemlcaffaaGreatK07
import Derived.Test.YtljaahemlcaffaaGreatK06
import Derived.Test.YtljaahemlcaffaaGreatK01
import Derived.Deep.DeepCutAuto
import Derived.BigQuiet
import Derived.Test.YtljaahemlcaffaaGreatK05
namespace Go.Proofs.YtljaahemlcaffaaGreat
open Go.RowKit Pz Sp
set_option linter.unusedVariables false
set_option linter.unusedSimpArgs false

set_option maxHeartbeats 8000000 in
set_option maxRecDepth 100000 in
theorem cins_new {w W : World} {L : List Piece} {g o c n i vb m : Nat} {l : List Bn} (H : Sep w (rowB (.slice (some ⟨g, o, none⟩) n c) l :: L) W) (hn : l.length = n) (hl : n + 1 ≤ 900000) (hi : i < n) (hm : m = 1) (hroom : c < n + m) (b : Bn) (hv : W.heap[vb]? = some (.cells (bnE b).toArray 42 (0, 0))) :
    Calls Tryz.prog 94 #[.slice (some ⟨g, o, none⟩) n c, .int .i64 i, .slice (some ⟨vb, 0, none⟩) m m] W fun e V => ∃ A' c', e = .returned (.slice A' (n + m) c') ∧ Sep w (rowB (.slice A' (n + 1) c') (l.take i ++ b :: l.drop i) :: L) V := by
  obtain ⟨G0, ⟨h1, h2⟩, h3, next⟩ := H.one
  obtain ⟨cur, q2, hnc, q4, q5, q6⟩ : ∃ cur, W.heap[g]? = some (.cells cur 42 (0, 0)) ∧ n ≤ c ∧ c ≤ 9223372036854775807 ∧ o + c * 11 ≤ cur.size ∧ ∀ (j : Nat) (x : Bn), l[j]? = some x → ∀ (e : Nat) (u : Value), (bnE x)[e]? = some u → cur[o + (j * 11 + e)]? = some u := by
    rcases h1 with ⟨e, _⟩ | ⟨_, _, _, cur, e, _, q2, q3, q4, q5, q6⟩
    · cases e
    · cases e; exact ⟨cur, q2, by omega, q4, q5, q6⟩
  obtain ⟨i0, hi0, hz0, hzs, hzb⟩ := info_parts (P := Tryz.prog) bundle_info
  have lg := Bx.lt q2
  have lv := Bx.lt hv
  have hcell : ∀ (j : Nat) (v : Value), (l.flatMap bnE)[j]? = some v → W.cell? ⟨g, o + j, none⟩ = some v := fun j v hj => by
    obtain ⟨k, x, e, e1, e2, rfl⟩ := flat_inv bnE_len _ j v hj
    exact (Bx.cell q2 (q6 k x e1 e v e2)).1
  have htk : ∀ (j : Nat) (v : Value), ((l.take i).flatMap bnE)[j]? = some v → W.cell? ⟨g, o + j, none⟩ = some v := fun j v hj => by
    obtain ⟨k, x, e, e1, e2, rfl⟩ := flat_inv bnE_len _ j v hj
    rw [List.getElem?_take] at e1
    split at e1
    · exact (Bx.cell q2 (q6 k x e1 e v e2)).1
    · cases e1
  have hdp : ∀ (j : Nat) (v : Value), ((l.drop i).flatMap bnE)[j]? = some v → W.cell? ⟨g, o + i * 11 + j, none⟩ = some v := fun j v hj => by
    obtain ⟨k, x, e, e1, e2, rfl⟩ := flat_inv bnE_len _ j v hj
    rw [List.getElem?_drop] at e1
    rw [show o + i * 11 + (k * 11 + e) = o + ((i + k) * 11 + e) by omega]
    exact (Bx.cell q2 (q6 (i + k) x e1 e v e2)).1
  have htl : ((l.take i).flatMap bnE).length = i * 11 := by rw [flat_len bnE_len, List.length_take, hn, Nat.min_eq_left (by omega)]
  have hdl : ((l.drop i).flatMap bnE).length = (n - i) * 11 := by rw [flat_len bnE_len, List.length_drop, hn]
  have hz1 : ¬ ((m : Int) = 0) := by omega
  have hz2 : ¬ ((i : Int) = (n : Int)) := by omega
  have hw1 : IntKind.i64.wrap ((i : Int) + (m : Int)) = (i : Int) + (m : Int) := by rw [IntKind.wrap_i64]; omega
  have hb1 : (0 : Int) ≤ (i : Int) + (m : Int) := by omega
  have hin : i ≤ n := by omega
  have htn : ((i : Int) + (m : Int)).toNat = i + m := by omega
  have hz3 : (c : Int) < (n : Int) + (m : Int) := by omega
  have hkk : (n : Int) + (m : Int) - (i : Int) = ((n + m - i : Nat) : Int) := by omega
  have hik : i + (n + m - i) = n + m := by omega
  have hold : (Builtin.firstCells i0.size i (.slice (some ⟨g, o, none⟩) i c)).run Tryz.prog W.drew = .ok ((l.take i).flatMap bnE).toArray W.drew := by
    rw [hzs]
    exact run_firstCells_some W.drew 11 i ⟨g, o, none⟩ i c _ htl (fun j v hj => by
      rw [Addr.add_lit]
      exact htk j v hj)
  have hrz : ∀ ty, (Builtin.append_ #[24, 3] ty #[.slice (some ⟨g, o, none⟩) i c, .int .i64 ((n : Int) + (m : Int) - (i : Int))]).run Tryz.prog W =
      .ok (.slice (some ⟨W.heap.size, 0, none⟩) (n + m) (grownCap W (n + m) c 42)) (W.drew.alloc (.cells (((l.take i).flatMap bnE).toArray ++ Builtin.zeroCells (Sy.bn0.val).cells (n + m - i) ++ Builtin.zeroCells (Sy.bn0.val).cells (grownCap W (n + m) c 42 - (n + m))) 42)) := fun ty => by
    have h := Lib.run_append_grow_zeros W 24 3 ty 42 i0 _ .i64 .i64 Tryz.underlying24 Tryz.underlying3 hi0 hz0 (some ⟨g, o, none⟩) i c _ hold (n + m - i) (by omega) (by rw [hzs]; decide) (by omega) (by omega) (by rw [hzb]; omega) (by rw [hzb, hik]; exact growslice_fits (by omega) (by omega))
    rw [hik] at h
    rw [hkk]
    exact h
  obtain ⟨Gc, hG⟩ : ∃ Gc, Gc = grownCap W (n + m) c 42 := ⟨_, rfl⟩
  have hGn : n + m ≤ Gc := by rw [hG]; exact grownCap_ge W _ _ _
  have hG63 : Gc ≤ 9223372036854775807 := by
    have := grownCap_le_maxLen W (n + m) c 42 (by unfold maxLen; omega)
    rw [← hG] at this
    unfold maxLen at this
    omega
  obtain ⟨ROW, hROW⟩ : ∃ ROW : Array Value, ROW = ((l.take i).flatMap bnE).toArray ++ Builtin.zeroCells (Sy.bn0.val).cells (n + m - i) ++ Builtin.zeroCells (Sy.bn0.val).cells (Gc - (n + m)) := ⟨_, rfl⟩
  rw [← hG] at hrz
  rw [← hROW] at hrz
  have hRl : Gc * 11 = ROW.size := by
    rw [hROW]
    simp only [Array.size_append, List.size_toArray, size_zeroCells, htl]
    show Gc * 11 = i * 11 + (n + m - i) * 11 + (Gc - (n + m)) * 11
    omega
  have hro : ∀ (j : Nat) (v : Value), ((l.take i).flatMap bnE)[j]? = some v → ROW[j]? = some v := fun j v hj => by
    have hj2 := (List.getElem?_eq_some_iff.1 hj).1
    rw [hROW, Array.append_assoc, Array.getElem?_append_left (by simpa using hj2)]
    simpa using hj
  have hGnm : (n + 1) * 11 ≤ ROW.size := by rw [← hRl]; exact Nat.mul_le_mul_right _ (by omega)
  have FIN : Hid (∀ V, V = (((W.drew.alloc (.cells ROW 42)).setCells W.heap.size (i * 11) (bnE b)).drew).setCells W.heap.size ((i + m) * 11) ((l.drop i).flatMap bnE) → Sep w (rowB (.slice (some ⟨W.heap.size, 0, none⟩) (n + 1) Gc) (l.take i ++ b :: l.drop i) :: L) V) := Lib.hid fun V hV => by
    subst hm
    have at9 : (W.drew.alloc (.cells ROW 42)).heap[W.heap.size]? = some (.cells ROW 42 (0, 0)) := heap_alloc_new W.drew _
    obtain ⟨k1, k2⟩ := ins_new hn hi at9 (by omega) hG63 (by rw [hRl]; exact Nat.le_refl _) hro b _ ((W.drew.alloc (.cells ROW 42)).setCells W.heap.size (i * 11) (bnE b) |>.setCells W.heap.size ((i + 1) * 11) ((l.drop i).flatMap bnE)) rfl rfl
    have hd : V = (((W.drew.alloc (.cells ROW 42)).setCells W.heap.size (i * 11) (bnE b)).setCells W.heap.size ((i + 1) * 11) ((l.drop i).flatMap bnE)).drew := by
      rw [hV, ← drew_setCells]
    have k3 : OwnB V W.heap.size (.slice (some ⟨W.heap.size, 0, none⟩) (n + 1) Gc) (l.take i ++ b :: l.drop i) := k1.kept fun _ _ => by rw [hd]; rfl
    refine next V (rowB _ _) (fun k => (Value.slice (some ⟨W.heap.size, 0, none⟩) (n + 1) Gc).ownBlock = some k) ?_ ⟨k3.base (Nat.zero_le _), fun k => Iff.rfl⟩ fun k hk => .inr (by simp only [Value.ownBlock, Option.some.injEq] at hk; omega)
    have hs := k2.size
    refine ⟨?_, ?_, ?_, ?_, fun k hk hn' => ?_⟩
    · rw [hd]; exact k2.os
    · rw [hd]; exact k2.tape
    · rw [hd]; exact k2.output
    · rw [hd]; exact Nat.le_trans (by simp) hs
    · rw [hd]
      exact (k2.block k (Nat.lt_of_lt_of_le hk (by simp)) (by omega)).trans (Below.heap_alloc W.drew _ k hk)
  obtain ⟨W1, hW1⟩ : ∃ W1, W1 = W.drew.alloc (.cells ROW 42) := ⟨_, rfl⟩
  rw [← hW1] at hrz FIN
  have hN : ∀ j, j < (n + 1) * 11 → (W1.cell? ⟨W.heap.size, j, none⟩).isSome = true := fun j hj => by
    rw [hW1, World.cell?_alloc_at (w := W.drew) ROW _ W.heap.size j rfl, Array.getElem?_eq_getElem (by omega)]; rfl
  have hNf : ∀ j, W1.frozen? ⟨W.heap.size, j, none⟩ = false := fun j => by rw [hW1]; exact World.frozen?_alloc_at (w := W.drew) ROW _ W.heap.size j rfl
  have hOb : ∀ j v, W.cell? ⟨g, j, none⟩ = some v → W1.cell? ⟨g, j, none⟩ = some v := fun j v h => by rw [hW1, World.cell?_alloc_past (w := W.drew) _ g j lg]; exact h
  have hOv : ∀ j v, W.cell? ⟨vb, j, none⟩ = some v → W1.cell? ⟨vb, j, none⟩ = some v := fun j v h => by rw [hW1, World.cell?_alloc_past (w := W.drew) _ vb j lv]; exact h
  have hcpA : ∀ (V : World), (∀ x, V.cell? x = W1.cell? x) → (∀ x, V.frozen? x = W1.frozen? x) → ∀ ty dc, (Builtin.copy_ #[24, 24] ty #[.slice (some ⟨W.heap.size, i * 11, none⟩) (n + m - i) dc, .slice (some ⟨vb, 0, none⟩) m m]).run Tryz.prog V = .ok (goInt m) (V.setCells W.heap.size (i * 11) (bnE b)) := fun V hVc hVf ty dc =>
    run_copy_k V _ _ ty 42 11 W.heap.size (i * 11) (n + m - i) dc ⟨vb, 0, none⟩ m m m (bnE b) Tryz.underlying24 bundle_size (by simp only [Nat.min_def]; split <;> omega) (by rw [hm]; rfl)
      (fun j v hj => by rw [Addr.add_lit, hVc, Nat.zero_add]; exact hOv _ v (bn_cells hv j v hj))
      (fun j hj => by rw [hVc]; exact hN _ (by rw [bnE_len] at hj; omega)) (fun j hj => by rw [hVf]; exact hNf _) (bnE_one b)
  have hGi : ¬ (Gc = i) := by omega
  have hGim : ¬ (Gc = i + m) := by omega
  have hci : ¬ (c = i) := by omega
  have hbN : g ≠ W.heap.size := by omega
  have hcpB : ∀ (V : World), (∀ x, V.cell? x = (W1.setCells W.heap.size (i * 11) (bnE b)).cell? x) → (∀ x, V.frozen? x = (W1.setCells W.heap.size (i * 11) (bnE b)).frozen? x) → ∀ ty dc sc, (Builtin.copy_ #[24, 24] ty #[.slice (some ⟨W.heap.size, (i + m) * 11, none⟩) (n + m - (i + m)) dc, .slice (some ⟨g, o + i * 11, none⟩) (n - i) sc]).run Tryz.prog V = .ok (goInt ((n - i : Nat) : Int)) (V.setCells W.heap.size ((i + m) * 11) ((l.drop i).flatMap bnE)) := fun V hVc hVf ty dc sc =>
    run_copy_k V _ _ ty 42 11 W.heap.size ((i + m) * 11) (n + m - (i + m)) dc ⟨g, o + i * 11, none⟩ (n - i) sc (n - i) _ Tryz.underlying24 bundle_size (by simp only [Nat.min_def]; split <;> omega) hdl
      (fun j v hj => by
        rw [Addr.add_lit, hVc, World.cell?_setCells_out _ _ _ _ _ (fun h _ => absurd h hbN)]
        exact hOb _ v (hdp j v hj))
      (fun j hj => by rw [hVc]; exact isSome_setCells _ _ _ _ (fun t ht => hN _ (by rw [bnE_len] at ht; omega)) _ (hN _ (by rw [hdl] at hj; subst hm; omega)))
      (fun j hj => by rw [hVf, World.frozen?_setCells]; exact hNf _) (bn_one _)
  have hb3 : (i : Int) ≤ (n : Int) := by omega
  have hnm : (i : Int) ≤ (n : Int) + (m : Int) := by omega
  subst hW1
  have hlen := bnE_len b
  have hone := bnE_one b
  clear hcell htk hdp htl hdl hv H hN hNf hOb hOv hold hro hROW
  generalize (l.drop i).flatMap bnE = cs at *
  generalize bnE b = bs at *
  have hE1 : ∀ x, ((W.alloc (.cells ROW 42)).drew).cell? x = (W.drew.alloc (.cells ROW 42)).cell? x := fun x => rfl
  have hE2 : ∀ x, ((W.alloc (.cells ROW 42)).drew).frozen? x = (W.drew.alloc (.cells ROW 42)).frozen? x := fun x => rfl
  have hF1 : ∀ x, (((W.alloc (.cells ROW 42)).drew.setCells W.heap.size (i * 11) bs).drew).cell? x = ((W.drew.alloc (.cells ROW 42)).setCells W.heap.size (i * 11) bs).cell? x := fun x => rfl
  have hF2 : ∀ x, (((W.alloc (.cells ROW 42)).drew.setCells W.heap.size (i * 11) bs).drew).frozen? x = ((W.drew.alloc (.cells ROW 42)).setCells W.heap.size (i * 11) bs).frozen? x := fun x => rfl
  replace hm := Lib.hid hm
  replace hn := Lib.hid hn
  clear hkk hik hG hRl h1 h2 h3 next q6 q5 q2 hz0 hzs hzb hi0 hGnm hlen hone
  go_enter Tryz.func94, Tryz.ntmps94
  go_upto_region 11 with (first
    | (at_builtin; refine Lib.wpList_append_run _ rfl _ _ _ _ rfl _ _ rfl rfl _ _ (hrz _) ?_)
    | (at_builtin; refine wpList_copy_runI _ rfl _ _ 24 24 rfl _ _ rfl rfl (hcpA _ hE1 hE2 _ _) ?_))
  go_region_law (refine step_copy_runI rfl _ _ 24 24 rfl (.slice (some ⟨W.heap.size, (i + m) * 11, none⟩) (n + m - (i + m)) (Gc - (i + m))) (.slice (some ⟨g, o + i * 11, none⟩) (n - i) (c - i)) (by simp [Act.eval, Act.put]) (by simp [Act.eval, Act.put]) (hcpB _ hF1 hF2 42 (Gc - (i + m)) (c - i)) ?_)
  go_wp2
  go_ret
  exact ⟨_, _, rfl, FIN.out _ rfl⟩
end Go.Proofs.YtljaahemlcaffaaGreat
namespace Go.Proofs.YtljaahemlcaffaaGreat
open Go.RowKit Pz
set_option linter.unusedVariables false

set_option maxHeartbeats 4000000 in
theorem isnan_any (n : Int) (w : World) : Calls Tryz.prog 107 #[.int .i64 n] w fun e w' => e = .returned (.bool false) ∧ w = w' := by
  have h : (n != n) = false := by simp
  go_enter Tryz.func107, Tryz.ntmps107
  go_wp2
  go_ret
  exact ⟨rfl, rfl⟩

set_option maxHeartbeats 8000000 in
theorem cmpi_any (x y : Int) (w : World) : Calls Tryz.prog 89 #[.int .i64 x, .int .i64 y] w fun e w' => e = .returned (.int .i64 (cmpI x y)) ∧ w = w' := by
  have N := Lib.hid isnan_any
  unfold cmpI
  by_cases h1 : x < y
  · rw [if_pos h1]
    have t1 : decide (x < y) = true := decide_eq_true h1
    go_enter Tryz.func89, Tryz.ntmps89
    go_wp2_with (go_at_call 107; with_reducible refine (N.out _ _).mono ?_; rintro e w' ⟨rfl, rfl⟩)
    go_ret
    exact ⟨rfl, rfl⟩
  · rw [if_neg h1]
    have t1 : decide (x < y) = false := decide_eq_false h1
    by_cases h2 : x > y
    · rw [if_pos h2]
      have t2 : decide (x > y) = true := decide_eq_true h2
      go_enter Tryz.func89, Tryz.ntmps89
      go_wp2_with (go_at_call 107; with_reducible refine (N.out _ _).mono ?_; rintro e w' ⟨rfl, rfl⟩)
      go_ret
      exact ⟨rfl, rfl⟩
    · rw [if_neg h2]
      have t2 : decide (x > y) = false := decide_eq_false h2
      go_enter Tryz.func89, Tryz.ntmps89
      go_wp2_with (go_at_call 107; with_reducible refine (N.out _ _).mono ?_; rintro e w' ⟨rfl, rfl⟩)
      go_ret
      exact ⟨rfl, rfl⟩
set_option maxHeartbeats 8000000 in
/-- the first of three that is not 0 -/
theorem or_any {w : World} {b : Nat} {x y z : Int} (h0 : w.cell? ⟨b, 0, none⟩ = some (.int .i64 x)) (h1 : w.cell? ⟨b, 1, none⟩ = some (.int .i64 y)) (h2 : w.cell? ⟨b, 2, none⟩ = some (.int .i64 z)) :
    Calls Tryz.prog 88 #[.slice (some ⟨b, 0, none⟩) 3 3] w fun e w' => e = .returned (.int .i64 (orI x y z)) ∧ w = w' := by
  obtain ⟨r, hr⟩ : ∃ r, orI x y z = r := ⟨_, rfl⟩
  have R0 : Hid ((x != 0) = true → r = x) := Lib.hid fun h => by rw [← hr]; unfold orI; rw [if_pos (bne_iff_ne.1 h)]
  have R1 : Hid ((x != 0) = false → (y != 0) = true → r = y) := Lib.hid fun h h2 => by rw [← hr]; unfold orI; rw [if_neg (fun e => by rw [bne_iff_ne.2 e] at h; cases h), if_pos (bne_iff_ne.1 h2)]
  have R2 : Hid ((x != 0) = false → (y != 0) = false → r = z) := Lib.hid fun h h2 => by rw [← hr]; unfold orI; rw [if_neg (fun e => by rw [bne_iff_ne.2 e] at h; cases h), if_neg (fun e => by rw [bne_iff_ne.2 e] at h2; cases h2)]
  have R3 : Hid ((z != 0) = false → z = 0) := Lib.hid fun h => by simpa using h
  rw [hr]
  clear hr
  obtain ⟨tx, htx⟩ : ∃ t, (x != 0) = t := ⟨_, rfl⟩
  obtain ⟨ty, hty⟩ : ∃ t, (y != 0) = t := ⟨_, rfl⟩
  obtain ⟨tz, htz⟩ : ∃ t, (z != 0) = t := ⟨_, rfl⟩
  rw [htx, hty] at R1 R2
  rw [htx] at R0
  rw [htz] at R3
  go_enter Tryz.func88, Tryz.ntmps88
  go_wp2
  go_loopw [8] (fun ix wr => wr = w ∧ ((ix = .int .i64 0) ∨ (ix = .int .i64 1 ∧ tx = false) ∨ (ix = .int .i64 2 ∧ tx = false ∧ ty = false) ∨ (ix = .int .i64 3 ∧ tx = false ∧ ty = false ∧ tz = false))) (fun ix _ => 3 - (intOf ix).toNat)
  case atStart => exact ⟨rfl, .inl rfl⟩
  case round =>
    obtain ⟨rfl, rfl | ⟨rfl, rfl⟩ | ⟨rfl, rfl, rfl⟩ | ⟨rfl, rfl, rfl, rfl⟩⟩ := hrel
    · cases tx with
      | true =>
        have e := R0.out rfl
        subst e
        clear R0 R1 R2 R3
        go_wp2
        go_ret
        exact ⟨rfl, rfl⟩
      | false =>
        go_wp2
        go_roundw
        case rel => simp
        case measure => simp [intOf]
    · cases ty with
      | true =>
        have e := R1.out rfl rfl
        subst e
        clear R0 R1 R2 R3
        go_wp2
        go_ret
        exact ⟨rfl, rfl⟩
      | false =>
        go_wp2
        go_roundw
        case rel => simp
        case measure => simp [intOf]
    · cases tz with
      | true =>
        have e := R2.out rfl rfl
        subst e
        clear R0 R1 R2 R3
        go_wp2
        go_ret
        exact ⟨rfl, rfl⟩
      | false =>
        go_wp2
        go_roundw
        case rel => simp
        case measure => simp [intOf]
    · have e := (R2.out rfl rfl).trans (R3.out rfl)
      subst e
      clear R0 R1 R2 R3
      go_wp2
      go_ret
      exact ⟨rfl, rfl⟩
abbrev Trio (x y z : Int) : Og.Ph := Og.Fresh 0 #[.int .i64 x, .int .i64 y, .int .i64 z] 3 3
theorem or_trio {x y z r : Int} (hr : orI x y z = r) {W : World} {v : Value} (h : Trio x y z v W) : Calls Tryz.prog 88 #[v] W fun e w' => e = .returned (.int .i64 r) ∧ grows.r W w' := by
  obtain ⟨b, rfl, _, _, hb⟩ := h
  obtain ⟨⟨g0, g1, g2⟩, _⟩ := Bx.b3 hb
  subst hr
  exact Og.same (or_any g0 g1 g2)
set_option maxHeartbeats 16000000 in
set_option maxRecDepth 100000 in
theorem compare_any (a1 a2 a3 b1 b2 b3 : Int) (w : World) : Calls Tryz.prog 62 #[.agg #[.int .i64 a1, .int .i64 a2, .int .i64 a3], .agg #[.int .i64 b1, .int .i64 b2, .int .i64 b3]] w fun e w' => e = .returned (.int .i64 (cmpB (a1, a2, a3) (b1, b2, b3))) ∧ Below w.heap.size w w' := by
  have BE := Lib.hid (bel2 w (.cells #[.int .i64 a1, .int .i64 a2, .int .i64 a3] 40) (.cells #[.int .i64 b1, .int .i64 b2, .int .i64 b3] 40))
  have HA := at2a w (.cells #[.int .i64 a1, .int .i64 a2, .int .i64 a3] 40) (.cells #[.int .i64 b1, .int .i64 b2, .int .i64 b3] 40)
  have HB := at2b w (.cells #[.int .i64 a1, .int .i64 a2, .int .i64 a3] 40) (.cells #[.int .i64 b1, .int .i64 b2, .int .i64 b3] 40)
  have C1 : Hid (∀ W, Calls Tryz.prog 89 #[.int .i64 a1, .int .i64 b1] W fun e w' => e = .returned (.int .i64 (cmpI a1 b1)) ∧ W = w') := Lib.hid fun W => cmpi_any a1 b1 W
  have C2 : Hid (∀ W, Calls Tryz.prog 89 #[.int .i64 a2, .int .i64 b2] W fun e w' => e = .returned (.int .i64 (cmpI a2 b2)) ∧ W = w') := Lib.hid fun W => cmpi_any a2 b2 W
  have C3 : Hid (∀ W, Calls Tryz.prog 89 #[.int .i64 a3, .int .i64 b3] W fun e w' => e = .returned (.int .i64 (cmpI a3 b3)) ∧ W = w') := Lib.hid fun W => cmpi_any a3 b3 W
  unfold cmpB
  simp only
  generalize cmpI a1 b1 = x at *
  generalize cmpI a2 b2 = y at *
  generalize cmpI a3 b3 = z at *
  obtain ⟨r, hr⟩ : ∃ r, orI x y z = r := ⟨_, rfl⟩
  rw [hr]
  go_enter Tryz.func62, Tryz.ntmps62
  go_upto_region 1 with fail
  generalize (w.alloc (.cells #[.int .i64 a1, .int .i64 a2, .int .i64 a3] 40)).alloc (.cells #[.int .i64 b1, .int .i64 b2, .int .i64 b3] 40) = w1 at *
  have PA : ∀ p : Lat grows w1, p.W.cell? ⟨w.heap.size, 0, none⟩ = some (.int .i64 a1) ∧ p.W.cell? ⟨w.heap.size, 1, none⟩ = some (.int .i64 a2) ∧ p.W.cell? ⟨w.heap.size, 2, none⟩ = some (.int .i64 a3) := fun p => (Bx.b3 ((Below.block p.h _ (Bx.lt HA)).trans HA)).1
  have PB : ∀ p : Lat grows w1, p.W.cell? ⟨w.heap.size + 1, 0, none⟩ = some (.int .i64 b1) ∧ p.W.cell? ⟨w.heap.size + 1, 1, none⟩ = some (.int .i64 b2) ∧ p.W.cell? ⟨w.heap.size + 1, 2, none⟩ = some (.int .i64 b3) := fun p => (Bx.b3 ((Below.block p.h _ (Bx.lt HB)).trans HB)).1
  have k0 := fun p => (PA p).1
  have k1 := fun p => (PA p).2.1
  have k2 := fun p => (PA p).2.2
  have m0 := fun p => (PB p).1
  have m1 := fun p => (PB p).2.1
  have m2 := fun p => (PB p).2.2
  clear PA PB HA HB
  replace hr := Lib.hid hr
  refine Og.grow 18 (by kernel_rfl) (by kernel_rfl) fun hc hf => ?_
  clear hc hf
  simp only [List.take_succ_cons, List.take_zero, List.drop_succ_cons, List.drop_zero]
  iterate 4 (refine Og.det [] rfl (fun J hJ => ?_); go_simp; refine hJ _ _ ?_; clear hJ J)
  refine Og.det [] rfl (fun J hJ => ?_)
  go_simp
  with_reducible refine ⟨_, fun p => Og.same (C1.out p.W), hJ _ _ ?_⟩
  clear hJ J
  iterate 4 (refine Og.det [] rfl (fun J hJ => ?_); go_simp; refine hJ _ _ ?_; clear hJ J)
  refine Og.det [] rfl (fun J hJ => ?_)
  go_simp
  with_reducible refine ⟨_, fun p => Og.same (C2.out p.W), hJ _ _ ?_⟩
  clear hJ J
  iterate 4 (refine Og.det [] rfl (fun J hJ => ?_); go_simp; refine hJ _ _ ?_; clear hJ J)
  refine Og.det [] rfl (fun J hJ => ?_)
  go_simp
  with_reducible refine ⟨_, fun p => Og.same (C3.out p.W), hJ _ _ ?_⟩
  clear hJ J
  refine Og.such 20 (Trio x y z) [] rfl (Og.Fresh.lasts _ _ _ _) (Og.Fresh.noBool _ _ _ _) (fun J hJ => ?_)
  go_simp
  refine ⟨fun p => Og.Fresh.new p.W 0 (Nat.zero_le _) _ _ _, hJ _ _ ?_⟩
  clear hJ J
  refine Og.det [(20, Trio x y z)] rfl (fun J hJ => ?_)
  go_simp
  refine ⟨_, fun p v hv => or_trio hr.out hv, hJ _ _ ?_⟩
  clear hJ J
  refine Og.det [] rfl (fun J hJ => ?_); go_simp; refine hJ _ _ ?_; clear hJ J
  refine Og.fin fun W hW => ?_
  simp only [Og.opened_cons, Og.opened_nil]
  intro v20 hv20
  clear hv20
  have FIN := BE.out.trans (hW.mono BE.out.size)
  go_wp2
  go_ret
  exact ⟨rfl, FIN⟩
end Go.Proofs.YtljaahemlcaffaaGreat
namespace Go.Proofs.YtljaahemlcaffaaGreat
open Go.RowKit Pz
set_option linter.unusedVariables false

theorem lat_below {W : World} (p : Lat grows W) : Below W.heap.size W p.W := p.h
theorem push_bn (W : World) {B : Nat} {v : Value} {l : List Bn} (h : OwnB W B v l) (hB : B ≤ W.heap.size) (hl : l.length ≤ 10000) (x : Bn) (ty : TypeId) :
    ∃ v' w', (Builtin.append_ #[24, 24] ty #[v, .slice (some ⟨W.heap.size, 0, none⟩) 1 1]).run Tryz.prog (W.alloc (.cells #[.int .i64 x.s, .int .i64 x.i, .int .i64 x.g, .int .i64 x.m, .int .i64 x.x, .int .i64 x.y, .int .i64 x.vx, .int .i64 x.vy, .int .i64 x.h, .int .i64 x.p, .int .i64 x.l] 42)) = .ok v' w' ∧
      OwnB w' B v' (l ++ [x]) ∧ Below B W w' := by
  have h' : OwnB (W.alloc (.cells #[.int .i64 x.s, .int .i64 x.i, .int .i64 x.g, .int .i64 x.m, .int .i64 x.x, .int .i64 x.y, .int .i64 x.vx, .int .i64 x.vy, .int .i64 x.h, .int .i64 x.p, .int .i64 x.l] 42)) B v l := h.below (bel1 W _)
  obtain ⟨v', w', hr, ho, hg, hb⟩ := h'.app (P := Tryz.prog) (t := 24) (ty := ty) Tryz.underlying24 bundle_info rfl (by decide) bnE_len bnE_one (by rw [size1]; omega) [x] ⟨W.heap.size, 0, none⟩ 1 (fun j y hj => by
    match j, hj with
    | 0, hj =>
      simp only [List.getElem?_cons_zero, Option.some.injEq] at hj
      subst hj
      intro c u hu
      have hc : c < 11 := (List.getElem?_eq_some_iff.1 hu).1
      rw [Addr.add_mid, cellAt (heap_alloc_new W _)]
      have : c = 0 ∨ c = 1 ∨ c = 2 ∨ c = 3 ∨ c = 4 ∨ c = 5 ∨ c = 6 ∨ c = 7 ∨ c = 8 ∨ c = 9 ∨ c = 10 := by omega
      rcases this with rfl | rfl | rfl | rfl | rfl | rfl | rfl | rfl | rfl | rfl | rfl <;> simpa [bnE] using hu) (by simp; omega) (by decide) (.inl (by simp))
  refine ⟨v', w', hr, ho, ((Below.refl B W).alloc hB _).grown hg (by rw [size1]; omega) (fun k hk => (h'.blk hk).1)⟩
/-- an entity is put at a place of one's own row -/
theorem row_put {W : World} {B n c : Nat} {A : Option Addr} {R : List Bn} (h : OwnB W B (.slice A n c) R) (hn : R.length = n) {k : Nat} (hk : k < n) (x : Bn) :
    ∃ g o, A = some ⟨g, o, none⟩ ∧ (∃ y : Bn, R[k]? = some y ∧ (W.cell? ⟨g, o + k * 11, none⟩ = some (.int .i64 y.s) ∧ W.cell? ⟨g, o + k * 11 + 1, none⟩ = some (.int .i64 y.i) ∧ W.cell? ⟨g, o + k * 11 + 2, none⟩ = some (.int .i64 y.g) ∧ W.cell? ⟨g, o + k * 11 + 3, none⟩ = some (.int .i64 y.m) ∧ W.cell? ⟨g, o + k * 11 + 4, none⟩ = some (.int .i64 y.x) ∧ W.cell? ⟨g, o + k * 11 + 5, none⟩ = some (.int .i64 y.y) ∧ W.cell? ⟨g, o + k * 11 + 6, none⟩ = some (.int .i64 y.vx) ∧ W.cell? ⟨g, o + k * 11 + 7, none⟩ = some (.int .i64 y.vy) ∧ W.cell? ⟨g, o + k * 11 + 8, none⟩ = some (.int .i64 y.h) ∧ W.cell? ⟨g, o + k * 11 + 9, none⟩ = some (.int .i64 y.p) ∧ W.cell? ⟨g, o + k * 11 + 10, none⟩ = some (.int .i64 y.l))) ∧ (W.frozen? ⟨g, o + k * 11, none⟩ = false ∧ W.frozen? ⟨g, o + k * 11 + 1, none⟩ = false ∧ W.frozen? ⟨g, o + k * 11 + 2, none⟩ = false ∧ W.frozen? ⟨g, o + k * 11 + 3, none⟩ = false ∧ W.frozen? ⟨g, o + k * 11 + 4, none⟩ = false ∧ W.frozen? ⟨g, o + k * 11 + 5, none⟩ = false ∧ W.frozen? ⟨g, o + k * 11 + 6, none⟩ = false ∧ W.frozen? ⟨g, o + k * 11 + 7, none⟩ = false ∧ W.frozen? ⟨g, o + k * 11 + 8, none⟩ = false ∧ W.frozen? ⟨g, o + k * 11 + 9, none⟩ = false ∧ W.frozen? ⟨g, o + k * 11 + 10, none⟩ = false) ∧ Hid (OwnB (((((((((((W.setCell ⟨g, o + k * 11, none⟩ (.int .i64 x.s)).setCell ⟨g, o + k * 11 + 1, none⟩ (.int .i64 x.i)).setCell ⟨g, o + k * 11 + 2, none⟩ (.int .i64 x.g)).setCell ⟨g, o + k * 11 + 3, none⟩ (.int .i64 x.m)).setCell ⟨g, o + k * 11 + 4, none⟩ (.int .i64 x.x)).setCell ⟨g, o + k * 11 + 5, none⟩ (.int .i64 x.y)).setCell ⟨g, o + k * 11 + 6, none⟩ (.int .i64 x.vx)).setCell ⟨g, o + k * 11 + 7, none⟩ (.int .i64 x.vy)).setCell ⟨g, o + k * 11 + 8, none⟩ (.int .i64 x.h)).setCell ⟨g, o + k * 11 + 9, none⟩ (.int .i64 x.p)).setCell ⟨g, o + k * 11 + 10, none⟩ (.int .i64 x.l)) B (.slice (some ⟨g, o, none⟩) n c) (R.set k x) ∧ Below B W (((((((((((W.setCell ⟨g, o + k * 11, none⟩ (.int .i64 x.s)).setCell ⟨g, o + k * 11 + 1, none⟩ (.int .i64 x.i)).setCell ⟨g, o + k * 11 + 2, none⟩ (.int .i64 x.g)).setCell ⟨g, o + k * 11 + 3, none⟩ (.int .i64 x.m)).setCell ⟨g, o + k * 11 + 4, none⟩ (.int .i64 x.x)).setCell ⟨g, o + k * 11 + 5, none⟩ (.int .i64 x.y)).setCell ⟨g, o + k * 11 + 6, none⟩ (.int .i64 x.vx)).setCell ⟨g, o + k * 11 + 7, none⟩ (.int .i64 x.vy)).setCell ⟨g, o + k * 11 + 8, none⟩ (.int .i64 x.h)).setCell ⟨g, o + k * 11 + 9, none⟩ (.int .i64 x.p)).setCell ⟨g, o + k * 11 + 10, none⟩ (.int .i64 x.l))) := by
  subst hn
  obtain ⟨g, o, rfl, hB, hc, hf⟩ := own_at h (List.getElem?_eq_getElem hk)
  obtain ⟨h1, h2⟩ := own_set h hk x
  exact ⟨g, o, rfl, ⟨_, List.getElem?_eq_getElem hk, hc⟩, hf, Lib.hid ⟨h1, h2 B hB⟩⟩
end Go.Proofs.YtljaahemlcaffaaGreat
