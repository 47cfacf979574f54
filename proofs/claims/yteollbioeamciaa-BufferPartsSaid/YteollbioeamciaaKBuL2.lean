/- The law BufferDoes, walked. Written by wip/tools/genbulaw.py. -/
import Derived.Test.YteollbioeamciaaKBuF
import Derived.Test.YteollbioeamciaaKBuC
namespace Go.Proofs.Yteollbioeamciaa
open Go.RowKit Pz Ar Bu Sp
set_option linter.unusedVariables false
set_option linter.unusedSimpArgs false

theorem Sep.drew {w W : World} {L : List Piece} (h : Sep w L W) : Sep w L W.drew := h.below (Below.refl _ _).drew
set_option maxHeartbeats 16000000 in
set_option maxRecDepth 100000 in
theorem law_does (w : World) (A : Option Addr) (c : Nat) (l0 : List De) (hc : l0.length ≤ c) (hcap : c ≤ 140737488351232) (hF : ∀ x ∈ l0, Fit x.b.m ∧ Fit x.m) (R : RdDe w w.heap.size A l0) :
    Calls Try.prog 3 #[.slice A l0.length c] w fun e w' => e = .returned (.bool true) ∧ Below w.heap.size w w' := by
  have N := Lib.hid (sep_store (sep_new w))
  obtain ⟨s, hs⟩ : ∃ s, s = w.heap.size := ⟨_, rfl⟩
  have FW := Lib.hid fun W (hW : Below w.heap.size w W) => few_any ((R.below hW).more hW.size) hc hcap
  obtain ⟨l, hl⟩ : ∃ l, l = l0.take 60 := ⟨_, rfl⟩
  have hl6 : l.length ≤ 60 := by rw [hl, List.length_take]; omega
  have RX := Lib.hid fun W (hW : Below w.heap.size w W) => (R.take 60).below hW
  have FX : Hid (∀ x ∈ l, Fit x.b.m ∧ Fit x.m) := Lib.hid fun x hx => hF x (List.mem_of_mem_take (hl ▸ hx))
  rw [← hl] at RX FW
  rw [← hs] at N
  clear hl hs R hF hc hcap
  have hn : (l.length : Int) ≤ 60 := by omega
  have eA : (Array.replicate 32 (.slice none 0 0) : Array Value) = #[.slice none 0 0, .slice none 0 0, .slice none 0 0, .slice none 0 0, .slice none 0 0, .slice none 0 0, .slice none 0 0, .slice none 0 0, .slice none 0 0, .slice none 0 0, .slice none 0 0, .slice none 0 0, .slice none 0 0, .slice none 0 0, .slice none 0 0, .slice none 0 0, .slice none 0 0, .slice none 0 0, .slice none 0 0, .slice none 0 0, .slice none 0 0, .slice none 0 0, .slice none 0 0, .slice none 0 0, .slice none 0 0, .slice none 0 0, .slice none 0 0, .slice none 0 0, .slice none 0 0, .slice none 0 0, .slice none 0 0, .slice none 0 0] := rfl
  have AW := Lib.hid awake_any
  have DN : Hid (∀ V, Calls Try.prog 11 #[.pointer none, .agg #[.int .i64 1, .int .i64 0, .int .i64 0, .int .i64 0, .int .i64 1, .int .i64 0, .int .i64 0, .int .i64 0, .int .i64 0, .int .i64 0, .int .i64 0, .int .i64 0, .int .i64 0]] V fun e V' => e = .returned (.int .i64 1) ∧ Below V.heap.size V V') := Lib.hid fun V => do_nil V aw1
  have NB := Lib.hid fun V (h : Sep w [stC s T0] V) => (sep_ref h).pull 1 rfl
  rw [eA] at NB
  have b0_ := aw_b0
  have b1_ := aw_b1
  have z0 : bdos T0 (l.take 0) = T0 := rfl
  generalize l0.length = n0 at *
  go_enter Try.func3, Try.ntmps3
  go_wp2_with (first
    | (go_at_call 9; refine N.out.mono ?_; rintro e w1 ⟨rfl, h1'⟩; have h1 := NB.out _ h1'; clear N h1' NB eA)
    | (go_at_call 10; refine (FW.out _ h1.bel).mono ?_; rintro e w2 ⟨⟨c', rfl, _, _⟩, rfl⟩; have h2 := Lib.hid h1; clear FW h1))
  generalize w1.heap.size = r at *
  have h3 : Hid (Sep w [stC s (bdos T0 (l.take 0)), stR r (bdos T0 (l.take 0))] _) := h2
  clear h2 z0
  go_loopw [5] (fun i wr => ∃ j : Nat, j ≤ l.length ∧ i = .int .i64 j ∧ Hid (Sep w [stC s (bdos T0 (l.take j)), stR r (bdos T0 (l.take j))] wr)) (fun i _ => l.length - (intOf i).toNat)
  case atStart => exact ⟨0, Nat.zero_le _, rfl, h3⟩
  case round =>
    obtain ⟨j, hj, rfl, HP⟩ := hrel
    clear h3
    by_cases hjn : j < l.length
    · have t1 : (j : Int) < (l.length : Int) := by omega
      have hx := List.getElem?_eq_getElem hjn
      obtain ⟨g, o, rfl, _⟩ := RX.out wr HP.out.bel j _ hx
      have RC : Hid (∀ W, Below w.heap.size w W → W.cell? ⟨g, o + j * 13, none⟩ = some (.int .i64 l[j].k) ∧ W.cell? ⟨g, o + j * 13 + 1, none⟩ = some (.int .i64 l[j].b.s) ∧ W.cell? ⟨g, o + j * 13 + 2, none⟩ = some (.int .i64 l[j].b.i) ∧ W.cell? ⟨g, o + j * 13 + 3, none⟩ = some (.int .i64 l[j].b.g) ∧ W.cell? ⟨g, o + j * 13 + 4, none⟩ = some (.int .i64 l[j].b.m) ∧ W.cell? ⟨g, o + j * 13 + 5, none⟩ = some (.int .i64 l[j].b.x) ∧ W.cell? ⟨g, o + j * 13 + 6, none⟩ = some (.int .i64 l[j].b.y) ∧ W.cell? ⟨g, o + j * 13 + 7, none⟩ = some (.int .i64 l[j].b.vx) ∧ W.cell? ⟨g, o + j * 13 + 8, none⟩ = some (.int .i64 l[j].b.vy) ∧ W.cell? ⟨g, o + j * 13 + 9, none⟩ = some (.int .i64 l[j].b.h) ∧ W.cell? ⟨g, o + j * 13 + 10, none⟩ = some (.int .i64 l[j].b.p) ∧ W.cell? ⟨g, o + j * 13 + 11, none⟩ = some (.int .i64 l[j].b.l) ∧ W.cell? ⟨g, o + j * 13 + 12, none⟩ = some (.int .i64 l[j].m)) := Lib.hid fun W hW => by
        obtain ⟨g', o', e, _, hc⟩ := RX.out W hW j _ hx
        cases e
        exact hc
      have hLe := le_few hl6 j
      have hLe1 := le_few hl6 (j + 1)
      have hT := bdos_take T0 hx
      have SX : Hid (∀ V, Sep w [stC s (bdos T0 (l.take j)), stR r (bdos T0 (l.take j))] V → Calls Try.prog 11 #[.pointer (some ⟨s, 0, none⟩), l[j].val] V fun e V' => e = .returned (.int .i64 (bdo (bdos T0 (l.take j)) l[j]).2) ∧ Sep w [stC s (bdos T0 (l.take (j + 1))), stR r (bdos T0 (l.take j))] V') := Lib.hid fun V hV => by rw [hT]; exact hV.do_ l[j] hLe (by decide)
      have DX : Hid (∀ V, Sep w [stC s (bdos T0 (l.take (j + 1))), stR r (bdos T0 (l.take j))] V → Calls Try.prog 12 #[.pointer (some ⟨r, 0, none⟩), l[j].val] V fun e V' => e = .returned (.int .i64 (bdo (bdos T0 (l.take j)) l[j]).2) ∧ Sep w [stC s (bdos T0 (l.take (j + 1))), stR r (bdos T0 (l.take (j + 1)))] V') := Lib.hid fun V hV => by
        have := (show Sep w [stR r (bdos T0 (l.take j)), stC s (bdos T0 (l.take (j + 1)))] V from hV.pull 1 rfl).rdo l[j] (FX.out _ (List.getElem_mem hjn)) hLe (by decide)
        refine this.mono fun e V' ⟨e1, e2⟩ => ⟨e1, ?_⟩
        have h3 : Sep w [stC s (bdos T0 (l.take (j + 1))), stR r (bdo (bdos T0 (l.take j)) l[j]).1] V' := e2.pull 1 rfl
        rw [← hT] at h3
        exact h3
      have AL : Hid (∀ V, Sep w [stC s (bdos T0 (l.take (j + 1))), stR r (bdos T0 (l.take (j + 1)))] V → Calls Try.prog 13 #[.pointer (some ⟨s, 0, none⟩), .pointer (some ⟨r, 0, none⟩)] V fun e V' => e = .returned (.bool true) ∧ Sep w [stC s (bdos T0 (l.take (j + 1))), stR r (bdos T0 (l.take (j + 1)))] V') := Lib.hid fun V hV => hV.alike 0 1 rfl rfl (total_few hLe1 (by decide))
      have HQ := HP.out
      clear RX FX HP hLe hLe1 hT hx DN AW b0_ b1_
      generalize (bdo (bdos T0 (l.take j)) l[j]).2 = rr at *
      have nm : (rr != rr) = false := by simp
      have nm2 : (rr == rr) = true := by simp
      simp only [De.val] at SX DX
      generalize l[j].k = y0 at *
      generalize l[j].b.s = y1 at *
      generalize l[j].b.i = y2 at *
      generalize l[j].b.g = y3 at *
      generalize l[j].b.m = y4 at *
      generalize l[j].b.x = y5 at *
      generalize l[j].b.y = y6 at *
      generalize l[j].b.vx = y7 at *
      generalize l[j].b.vy = y8 at *
      generalize l[j].b.h = y9 at *
      generalize l[j].b.p = y10 at *
      generalize l[j].b.l = y11 at *
      generalize l[j].m = y12 at *
      go_upto_region 6 with fail
      obtain ⟨k0, k1, k2, k3, k4, k5, k6, k7, k8, k9, k10, k11, k12⟩ := RC.out _ HQ.bel
      go_region_held3 (fun W' => W'.cell? ⟨g, o + j * 13, none⟩ = some (.int .i64 y0) ∧ W'.cell? ⟨g, o + j * 13 + 1, none⟩ = some (.int .i64 y1) ∧ W'.cell? ⟨g, o + j * 13 + 2, none⟩ = some (.int .i64 y2) ∧ W'.cell? ⟨g, o + j * 13 + 3, none⟩ = some (.int .i64 y3) ∧ W'.cell? ⟨g, o + j * 13 + 4, none⟩ = some (.int .i64 y4) ∧ W'.cell? ⟨g, o + j * 13 + 5, none⟩ = some (.int .i64 y5) ∧ W'.cell? ⟨g, o + j * 13 + 6, none⟩ = some (.int .i64 y6) ∧ W'.cell? ⟨g, o + j * 13 + 7, none⟩ = some (.int .i64 y7) ∧ W'.cell? ⟨g, o + j * 13 + 8, none⟩ = some (.int .i64 y8) ∧ W'.cell? ⟨g, o + j * 13 + 9, none⟩ = some (.int .i64 y9) ∧ W'.cell? ⟨g, o + j * 13 + 10, none⟩ = some (.int .i64 y10) ∧ W'.cell? ⟨g, o + j * 13 + 11, none⟩ = some (.int .i64 y11) ∧ W'.cell? ⟨g, o + j * 13 + 12, none⟩ = some (.int .i64 y12))
        (first | (exact RC.out _ h7.bel) | (exact RC.out _ h6.bel) | (exact RC.out _ h5.bel) | (exact RC.out _ HQ.drew.bel))
        (first
          | (go_at_call 13; refine (AL.out _ h6).mono ?_; rintro e w7 ⟨rfl, h7⟩)
          | (go_at_call 12; refine (DX.out _ h5).mono ?_; rintro e w6 ⟨rfl, h6⟩)
          | (go_at_call 11; refine (SX.out _ HQ.drew).mono ?_; rintro e w5 ⟨rfl, h5⟩))
      all_goals
        go_wp2
        go_roundw
        case rel => exact ⟨j + 1, by omega, by go_num, Lib.hid h7⟩
        case measure => simp [intOf]; omega
    · obtain rfl : j = l.length := by omega
      have t1 : ¬ (l.length : Int) < (l.length : Int) := by omega
      have hb0 := Lib.hid HP.out.bel
      clear RX FX HP
      generalize l.length = n at *
      go_wp2_with (first
        | (go_at_call 11; refine (DN.out _).mono ?_; rintro e w8 ⟨rfl, b8⟩; clear DN; have hb8 := hb0.out.trans (b8.mono hb0.out.size))
        | (go_at_call 14; refine (AW.out _).mono ?_; rintro e w9 ⟨rfl, b9⟩; clear AW))
      go_ret
      exact ⟨rfl, hb8.trans (b9.mono hb8.size)⟩
end Go.Proofs.Yteollbioeamciaa
