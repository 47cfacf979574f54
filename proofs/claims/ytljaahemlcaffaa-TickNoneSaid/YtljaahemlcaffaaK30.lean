/- Entities that may be, in a world, of unlike names. Written by wip/tools/gentk.py. Commands that may be; those that begin have names that nobody has. Written by wip/tools/gentk.py. The document's parts: Same of two rows that are the same. Rows of the same names. -/
import Derived.Test.YtljaahemlcaffaaK29
import Derived.Test.YtljaahemlcaffaaK11
import Derived.Test.YtljaahemlcaffaaK02
import Derived.Test.YtljaahemlcaffaaK04
import Derived.Test.YtljaahemlcaffaaK05
import Derived.Test.YtljaahemlcaffaaK13
import Derived.BigQuiet
import Derived.Deep.QuietTactic
import Derived.Deep.DeepCutAuto
import Derived.Deep.LoopGhost
import Derived.Deep.CutBlock
namespace Go.Proofs.Ytljaahemlcaffaa
open Go.RowKit Pz Sp
set_option linter.unusedVariables false
set_option linter.unusedSimpArgs false

/-- entities that may be, in the world, of unlike names -/
structure Lv (C R S : Int) (U : List Bn) : Prop where
  un : Tk.Un U
  may : ∀ b ∈ U, Pz.may b = true
  there : ∀ b ∈ U, Zn.There C R (Zn.of C R S b.x b.y)
  fits : ∀ b ∈ U, b.Fits
theorem lv_nil (C R S : Int) : Lv C R S [] := ⟨List.nodup_nil, fun _ h => by simp at h, fun _ h => by simp at h, fun _ h => by simp at h⟩
theorem Lv.push {C R S : Int} {U : List Bn} (h : Lv C R S U) {b : Bn} (h1 : Pz.may b = true) (h2 : Zn.There C R (Zn.of C R S b.x b.y)) (h3 : b.Fits) (h4 : ∀ z ∈ U, z.id ≠ b.id) : Lv C R S (U ++ [b]) := by
  have key : ∀ {P : Bn → Prop}, (∀ z ∈ U, P z) → P b → ∀ z ∈ U ++ [b], P z := fun {P} a c z hz => by
    rcases List.mem_append.1 hz with h | h
    · exact a z h
    · rw [List.mem_singleton.1 h]; exact c
  exact ⟨Tk.un_app h.un (by simp [Tk.Un]) fun x hx y hy => by rw [List.mem_singleton.1 hy]; exact h4 x hx, key h.may h1, key h.there h2, key h.fits h3⟩
theorem into_fit {x e : Int} (h0 : 0 < e) (h1 : e ≤ 4194304) : Fit (Zn.into x e) := by unfold Fit Zn.into; omega
theorem ent_push {w W : World} {L : List Piece} {v : Value} {U : List Bn} (h : Sep w (rowB v U :: L) W) (x : Bn) (hn : U.length + 1 ≤ 1000000) :
    ∃ v' V, ((Builtin.append_ #[24, 24] 24 #[v, .slice (some ⟨W.heap.size, 0, none⟩) 1 1]).run Try.prog (W.alloc (.cells #[.int .i64 x.s, .int .i64 x.i, .int .i64 x.g, .int .i64 x.m, .int .i64 x.x, .int .i64 x.y, .int .i64 x.vx, .int .i64 x.vy, .int .i64 x.h, .int .i64 x.p, .int .i64 x.l] 55)) = .ok v' V) ∧ Sep w (rowB v' (U ++ [x]) :: L) V := by
  obtain ⟨G, ⟨h1, h2⟩, _, next⟩ := h.one
  obtain ⟨v', V, hr, ho, hg, hv, _⟩ := app_x (enc := bnE) (T := 55) (s := 11) (t := 24) Try.underlying24 bundle_info rfl (by decide) bnE_len bnE_one h1 (Nat.zero_le _) x hn (by decide) 24
  exact ⟨v', V, hr, next V (rowB v' (U ++ [x])) (fun k => v'.ownBlock = some k) ⟨hg.os, hg.tape, hg.output, hg.size, fun k hk hn => hg.block k hk fun e => hn ((h2 k).2 e.symm)⟩ ⟨ho, fun k => Iff.rfl⟩ fun k hk => (hv k hk).imp (fun e => (h2 k).2 e) id⟩
theorem lv_fin {w W : World} {L : List Piece} {v : Value} {U : List Bn} (h : Sep w (rowB v U :: L) W) : OwnB W w.heap.size v U ∧ Below w.heap.size w W := by
  obtain ⟨G, ⟨g1, g2⟩, g3, _⟩ := h.one
  refine ⟨?_, h.bel⟩
  rcases g1 with h | ⟨g, off, cap, cur, e, h1, h2⟩
  · exact .inl h
  · refine .inr ⟨g, off, cap, cur, e, g3 g ((g2 g).2 (by rw [e]; rfl)), h2⟩
end Go.Proofs.Ytljaahemlcaffaa
namespace Go.Proofs.Ytljaahemlcaffaa
open Go.RowKit Pz Sp
set_option linter.unusedVariables false
set_option linter.unusedSimpArgs false

/-- told so that nobody comes twice -/
structure CFit (c : Cn) : Prop where
  k : Fit c.k
  m : Fit c.m
  s : Fit c.s
  i : Fit c.i
  g : Fit c.g
  b : c.b.Fits
structure Od (l : List Bn) (O : List Cn) : Prop where
  may : ∀ c ∈ O, mayCmd c = true
  fits : ∀ c ∈ O, CFit c
  new : ∀ c ∈ O, c.k = 1 → ∀ z ∈ l, z.id ≠ c.b.id
  fresh : Tk.Fresh O
theorem od_nil (l : List Bn) : Od l [] := ⟨fun _ h => by simp at h, fun _ h => by simp at h, fun _ h => by simp at h, List.Pairwise.nil⟩
theorem Od.push {l : List Bn} {O : List Cn} (h : Od l O) {c : Cn} (h1 : mayCmd c = true) (h2 : CFit c) (h3 : c.k = 1 → ∀ z ∈ l, z.id ≠ c.b.id) (h4 : c.k = 1 → ∀ z ∈ O, z.k = 1 → z.b.id ≠ c.b.id) : Od l (O ++ [c]) := by
  have key : ∀ {P : Cn → Prop}, (∀ z ∈ O, P z) → P c → ∀ z ∈ O ++ [c], P z := fun {P} a c z hz => by
    rcases List.mem_append.1 hz with h | h
    · exact a z h
    · rw [List.mem_singleton.1 h]; exact c
  refine ⟨key h.may h1, key h.fits h2, key h.new h3, ?_⟩
  unfold Tk.Fresh
  rw [List.pairwise_append]
  refine ⟨h.fresh, by simp, fun a ha b hb ka kb => ?_⟩
  rw [List.mem_singleton.1 hb] at kb ⊢
  exact h4 kb a ha ka
theorem Od.told {l : List Bn} {O : List Cn} (h : Od l O) (hu : Tk.Un l) : Tk.Told l O := ⟨hu, fun c hc hk => Tk.at_none.2 (h.new c hc hk), h.fresh⟩
theorem cmd_push {w W : World} {L : List Piece} {v : Value} {U : List Cn} (h : Sep w (row cnE 57 16 (v) U :: L) W) (x : Cn) (hn : U.length + 1 ≤ 1000000) :
    ∃ v' V, (Builtin.append_ #[25, 25] 25 #[v, .slice (some ⟨W.heap.size, 0, none⟩) 1 1]).run Try.prog (W.alloc (.cells (cnE x).toArray 57)) = .ok v' V ∧ Sep w (row cnE 57 16 (v') (U ++ [x]) :: L) V := by
  obtain ⟨G, ⟨h1, h2⟩, _, next⟩ := h.one
  obtain ⟨v', V, hr, ho, hg, hv, _⟩ := app_x (enc := cnE) (T := 57) (s := 16) (t := 25) Try.underlying25 cmd_info rfl (by decide) cnE_len cnE_one h1 (Nat.zero_le _) x hn (by decide) 25
  exact ⟨v', V, hr, next V (row cnE 57 16 (v') (U ++ [x])) (fun k => v'.ownBlock = some k) ⟨hg.os, hg.tape, hg.output, hg.size, fun k hk hn => hg.block k hk fun e => hn ((h2 k).2 e.symm)⟩ ⟨ho, fun k => Iff.rfl⟩ fun k hk => (hv k hk).imp (fun e => (h2 k).2 e) id⟩
theorem od_fin {w W : World} {L : List Piece} {v : Value} {U : List Cn} (h : Sep w (row cnE 57 16 (v) U :: L) W) : OwnC W w.heap.size v U ∧ Below w.heap.size w W := by
  obtain ⟨G, ⟨g1, g2⟩, g3, _⟩ := h.one
  refine ⟨?_, h.bel⟩
  rcases g1 with h | ⟨g, off, cap, cur, e, h1, h2⟩
  · exact .inl h
  · refine .inr ⟨g, off, cap, cur, e, g3 g ((g2 g).2 (by rw [e]; rfl)), h2⟩
end Go.Proofs.Ytljaahemlcaffaa
namespace Go.Proofs.Ytljaahemlcaffaa
open Go.RowKit Pz
set_option linter.unusedVariables false

set_option maxHeartbeats 16000000 in
set_option maxRecDepth 100000 in
/-- two rows of the same entities -/
theorem rsame_yes {w : World} {A1 A2 : Option Addr} {c1 c2 : Nat} {l : List Bn} (R1 : RdB w w.heap.size A1 l) (R2 : RdB w w.heap.size A2 l) (hl : l.length ≤ 140737488351232) :
    Calls Try.prog 22 #[.slice A1 l.length c1, .slice A2 l.length c2] w fun e w' => e = .returned (.bool true) ∧ Below w.heap.size w w' := by
  have AT : Hid (∀ W, Below w.heap.size w W → ∀ j (hj : j < l.length), ∃ g o g2 o2, A1 = some ⟨g, o, none⟩ ∧ A2 = some ⟨g2, o2, none⟩ ∧ (W.cell? ⟨g, o + j * 11, none⟩ = some (.int .i64 l[j].s) ∧ W.cell? ⟨g, o + j * 11 + 1, none⟩ = some (.int .i64 l[j].i) ∧ W.cell? ⟨g, o + j * 11 + 2, none⟩ = some (.int .i64 l[j].g) ∧ W.cell? ⟨g, o + j * 11 + 3, none⟩ = some (.int .i64 l[j].m) ∧ W.cell? ⟨g, o + j * 11 + 4, none⟩ = some (.int .i64 l[j].x) ∧ W.cell? ⟨g, o + j * 11 + 5, none⟩ = some (.int .i64 l[j].y) ∧ W.cell? ⟨g, o + j * 11 + 6, none⟩ = some (.int .i64 l[j].vx) ∧ W.cell? ⟨g, o + j * 11 + 7, none⟩ = some (.int .i64 l[j].vy) ∧ W.cell? ⟨g, o + j * 11 + 8, none⟩ = some (.int .i64 l[j].h) ∧ W.cell? ⟨g, o + j * 11 + 9, none⟩ = some (.int .i64 l[j].p) ∧ W.cell? ⟨g, o + j * 11 + 10, none⟩ = some (.int .i64 l[j].l)) ∧ (W.cell? ⟨g2, o2 + j * 11, none⟩ = some (.int .i64 l[j].s) ∧ W.cell? ⟨g2, o2 + j * 11 + 1, none⟩ = some (.int .i64 l[j].i) ∧ W.cell? ⟨g2, o2 + j * 11 + 2, none⟩ = some (.int .i64 l[j].g) ∧ W.cell? ⟨g2, o2 + j * 11 + 3, none⟩ = some (.int .i64 l[j].m) ∧ W.cell? ⟨g2, o2 + j * 11 + 4, none⟩ = some (.int .i64 l[j].x) ∧ W.cell? ⟨g2, o2 + j * 11 + 5, none⟩ = some (.int .i64 l[j].y) ∧ W.cell? ⟨g2, o2 + j * 11 + 6, none⟩ = some (.int .i64 l[j].vx) ∧ W.cell? ⟨g2, o2 + j * 11 + 7, none⟩ = some (.int .i64 l[j].vy) ∧ W.cell? ⟨g2, o2 + j * 11 + 8, none⟩ = some (.int .i64 l[j].h) ∧ W.cell? ⟨g2, o2 + j * 11 + 9, none⟩ = some (.int .i64 l[j].p) ∧ W.cell? ⟨g2, o2 + j * 11 + 10, none⟩ = some (.int .i64 l[j].l)) ∧
      ∀ V : World, (Op.equalIn 10000 55 (Bn.val l[j]) (Bn.val l[j])).run Try.prog V = .ok true V) := Lib.hid fun W hW j hj => by
    obtain ⟨g, o, e1, _, k1⟩ := (R1.below hW) j _ (List.getElem?_eq_getElem hj)
    obtain ⟨g2, o2, e2, _, k2⟩ := (R2.below hW) j _ (List.getElem?_eq_getElem hj)
    refine ⟨g, o, g2, o2, e1, e2, k1, k2, fun V => ?_⟩
    have := eq_bundle l[j].s l[j].i l[j].g l[j].m l[j].x l[j].y l[j].vx l[j].vy l[j].h l[j].p l[j].l l[j].s l[j].i l[j].g l[j].m l[j].x l[j].y l[j].vx l[j].vy l[j].h l[j].p l[j].l V
    simpa using this
  clear R1 R2
  have hnn : ((l.length : Int) != (l.length : Int)) = false := by simp
  have hn : (l.length : Int) ≤ 140737488351232 := by omega
  go_enter Try.func22, Try.ntmps22
  go_wp2
  go_loopw [5] (fun i wr => ∃ j : Nat, j ≤ l.length ∧ i = .int .i64 j ∧ Hid (Below w.heap.size w wr)) (fun i _ => l.length - (intOf i).toNat)
  case atStart => exact ⟨0, Nat.zero_le _, rfl, Lib.hid (Below.refl _ _)⟩
  case round =>
    obtain ⟨j, hj, rfl, HB⟩ := hrel
    by_cases hjn : j < l.length
    · have t1 : (j : Int) < (l.length : Int) := by omega
      obtain ⟨g, o, g2, o2, rfl, rfl, ⟨h0, h1, h2, h3, h4, h5, h6, h7, h8, h9, h10⟩, ⟨m0, m1, m2, m3, m4, m5, m6, m7, m8, m9, m10⟩, EQ⟩ := AT.out wr HB.out j hjn
      have NX : Hid (∀ m, Below w.heap.size w (wr.drewN m)) := Lib.hid fun m => Below.dn' HB.out m
      clear AT HB
      simp only [Bn.val] at EQ
      generalize l[j].s = y0 at *
      generalize l[j].i = y1 at *
      generalize l[j].g = y2 at *
      generalize l[j].m = y3 at *
      generalize l[j].x = y4 at *
      generalize l[j].y = y5 at *
      generalize l[j].vx = y6 at *
      generalize l[j].vy = y7 at *
      generalize l[j].h = y8 at *
      generalize l[j].p = y9 at *
      generalize l[j].l = y10 at *
      generalize l.length = n at *
      go_wp2
      go_quiet (fail)
      go_wp2
      go_roundw
      case rel => exact ⟨j + 1, by omega, by go_num, Lib.hid (NX.out _)⟩
      case measure => simp [intOf]; omega
    · obtain rfl : j = l.length := by omega
      have t1 : ¬ (l.length : Int) < (l.length : Int) := by omega
      clear AT
      generalize l.length = n at *
      go_wp2
      go_ret
      exact ⟨rfl, HB.out⟩
end Go.Proofs.Ytljaahemlcaffaa
namespace Go.Proofs.Ytljaahemlcaffaa
open Go.RowKit Pz
set_option linter.unusedVariables false
set_option linter.unusedSimpArgs false

set_option maxHeartbeats 16000000 in
set_option maxRecDepth 100000 in
theorem rsameids_yes {w : World} {A1 A2 : Option Addr} {c1 c2 : Nat} {l : List NKy} (R1 : RdI3 w w.heap.size A1 l) (R2 : RdI3 w w.heap.size A2 l) (hl : l.length ≤ 140737488351232) :
    Calls Try.prog 23 #[.slice A1 l.length c1, .slice A2 l.length c2] w fun e w' => e = .returned (.bool true) ∧ Below w.heap.size w w' := by
  have AT : Hid (∀ W, Below w.heap.size w W → ∀ j (hj : j < l.length), ∃ g o g2 o2, A1 = some ⟨g, o, none⟩ ∧ A2 = some ⟨g2, o2, none⟩ ∧ (W.cell? ⟨g, o + j * 3, none⟩ = some (.int .i64 l[j].1) ∧ W.cell? ⟨g, o + j * 3 + 1, none⟩ = some (.int .i64 l[j].2.1) ∧ W.cell? ⟨g, o + j * 3 + 2, none⟩ = some (.int .i64 l[j].2.2)) ∧ (W.cell? ⟨g2, o2 + j * 3, none⟩ = some (.int .i64 l[j].1) ∧ W.cell? ⟨g2, o2 + j * 3 + 1, none⟩ = some (.int .i64 l[j].2.1) ∧ W.cell? ⟨g2, o2 + j * 3 + 2, none⟩ = some (.int .i64 l[j].2.2)) ∧
      ∀ V : World, (Op.equalIn 10000 53 (.agg #[.int .i64 l[j].1, .int .i64 l[j].2.1, .int .i64 l[j].2.2]) (.agg #[.int .i64 l[j].1, .int .i64 l[j].2.1, .int .i64 l[j].2.2])).run Try.prog V = .ok true V) := Lib.hid fun W hW j hj => by
    obtain ⟨g, o, e1, _, k1⟩ := (R1.below hW) j _ (List.getElem?_eq_getElem hj)
    obtain ⟨g2, o2, e2, _, k2⟩ := (R2.below hW) j _ (List.getElem?_eq_getElem hj)
    refine ⟨g, o, g2, o2, e1, e2, k1, k2, fun V => ?_⟩
    have := eq_id 9998 l[j].1 l[j].2.1 l[j].2.2 l[j].1 l[j].2.1 l[j].2.2 V
    simpa using this
  clear R1 R2
  have hnn : ((l.length : Int) != (l.length : Int)) = false := by simp
  have hn : (l.length : Int) ≤ 140737488351232 := by omega
  go_enter Try.func23, Try.ntmps23
  go_wp2
  go_loopw [5] (fun i wr => ∃ j : Nat, j ≤ l.length ∧ i = .int .i64 j ∧ Hid (Below w.heap.size w wr)) (fun i _ => l.length - (intOf i).toNat)
  case atStart => exact ⟨0, Nat.zero_le _, rfl, Lib.hid (Below.refl _ _)⟩
  case round =>
    obtain ⟨j, hj, rfl, HB⟩ := hrel
    by_cases hjn : j < l.length
    · have t1 : (j : Int) < (l.length : Int) := by omega
      obtain ⟨g, o, g2, o2, rfl, rfl, ⟨h0, h1, h2⟩, ⟨m0, m1, m2⟩, EQ⟩ := AT.out wr HB.out j hjn
      have NX : Hid (∀ m, Below w.heap.size w (wr.drewN m)) := Lib.hid fun m => Below.dn' HB.out m
      clear AT HB
      generalize l[j].1 = y0 at *
      generalize l[j].2.1 = y1 at *
      generalize l[j].2.2 = y2 at *
      generalize l.length = n at *
      go_wp2
      go_quiet (fail)
      go_wp2
      go_roundw
      case rel => exact ⟨j + 1, by omega, by go_num, Lib.hid (NX.out _)⟩
      case measure => simp [intOf]; omega
    · obtain rfl : j = l.length := by omega
      have t1 : ¬ (l.length : Int) < (l.length : Int) := by omega
      clear AT
      generalize l.length = n at *
      go_wp2
      go_ret
      exact ⟨rfl, HB.out⟩
end Go.Proofs.Ytljaahemlcaffaa
