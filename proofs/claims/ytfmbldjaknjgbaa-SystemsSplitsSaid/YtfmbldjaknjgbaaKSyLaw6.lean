/- The law SystemsHits, walked. Written by wip/tools/gensy.py. -/
import Derived.Test.YtfmbldjaknjgbaaKSyCt
import Derived.Test.YtfmbldjaknjgbaaKSyB
import Derived.Test.YtfmbldjaknjgbaaKSyC
namespace Go.Proofs.Ytfmbldjaknjgbaa
open Go.RowKit Pz Sp
set_option linter.unusedVariables false
set_option linter.unusedSimpArgs false

theorem ownh_below {W V : World} {B : Nat} {v : Value} {l : List HK} (h : OwnH W B v l) (hb : Below W.heap.size W V) : OwnH V B v l :=
  Rw.kept h fun b hb' => by
    obtain ⟨_, cur, hc⟩ := h.blk hb'
    exact hb.block b (Bx.lt hc)
set_option maxHeartbeats 16000000 in
set_option maxRecDepth 100000 in
theorem law_hits (K : SyCt) (w : World) (r : Int) (A1 : Option Addr) (c1 : Nat) (l1 : List Bn) (hc1 : l1.length ≤ c1) (hp1 : c1 ≤ 140737488351232) (F1 : ∀ x ∈ l1, Fit x.m) (R1 : RdB w w.heap.size A1 l1) (A2 : Option Addr) (c2 : Nat) (l2 : List Bn) (hc2 : l2.length ≤ c2) (hp2 : c2 ≤ 140737488351232) (F2 : ∀ x ∈ l2, Fit x.m) (R2 : RdB w w.heap.size A2 l2) :
    Calls Try.prog 3 #[.int .i64 r, .slice A1 l1.length c1, .slice A2 l2.length c2] w fun e w' => e = .returned (.bool true) ∧ Below w.heap.size w w' := by
  have FW1 := Lib.hid (few_any R1 hc1 hp1)
  have FW2 := Lib.hid (few_any R2 hc2 hp2)
  obtain ⟨x, hx⟩ : ∃ x, x = l1.take 60 := ⟨_, rfl⟩
  obtain ⟨y, hy⟩ : ∃ y, y = l2.take 60 := ⟨_, rfl⟩
  have nx : x.length ≤ 1000 := by rw [hx, List.length_take]; omega
  have ny : y.length ≤ 1000 := by rw [hy, List.length_take]; omega
  have Rx : Hid (∀ W, Below w.heap.size w W → RdB W W.heap.size A1 x) := Lib.hid fun W hW => by rw [hx]; exact ((R1.take 60).below hW).more hW.size
  have Ry : Hid (∀ W, Below w.heap.size w W → RdB W W.heap.size A2 y) := Lib.hid fun W hW => by rw [hy]; exact ((R2.take 60).below hW).more hW.size
  have fx : ∀ z ∈ x, Fit z.m := fun z hz => F1 z (List.mem_of_mem_take (hx ▸ hz))
  have fy : ∀ z ∈ y, Fit z.m := fun z hz => F2 z (List.mem_of_mem_take (hy ▸ hz))
  rw [← hx] at FW1
  rw [← hy] at FW2
  clear hx hy R1 R2 F1 F2 hc1 hc2 hp1 hp2
  have AP1 : Hid (∀ W, Below w.heap.size w W → ∀ cap, ∃ A' c' V, (Builtin.append_ #[22, 22] 22 #[.slice (some ⟨W.heap.size, 0, none⟩) 0 0, .slice A1 x.length cap]).run Try.prog (W.alloc (.cells #[] 34)) = .ok (.slice A' x.length c') V ∧ Hid (RdB V V.heap.size A' x ∧ Below W.heap.size W V ∧ Below w.heap.size w V)) := Lib.hid fun W hW cap => by
    obtain ⟨A', c', V, hr, h1, h2⟩ := app_bn W (cap := cap) (Rx.out W hW) (by omega) 22
    exact ⟨A', c', V, hr, Lib.hid ⟨RdB.of_own h1, h2, hW.trans (h2.mono hW.size)⟩⟩
  have AP2 : Hid (∀ W, Below w.heap.size w W → ∀ cap, ∃ A' c' V, (Builtin.append_ #[22, 22] 22 #[.slice (some ⟨W.heap.size, 0, none⟩) 0 0, .slice A2 y.length cap]).run Try.prog (W.alloc (.cells #[] 34)) = .ok (.slice A' y.length c') V ∧ Hid (RdB V V.heap.size A' y ∧ Below W.heap.size W V ∧ Below w.heap.size w V)) := Lib.hid fun W hW cap => by
    obtain ⟨A', c', V, hr, h1, h2⟩ := app_bn W (cap := cap) (Ry.out W hW) (by omega) 22
    exact ⟨A', c', V, hr, Lib.hid ⟨RdB.of_own h1, h2, hW.trans (h2.mono hW.size)⟩⟩
  have HK := Lib.hid fun (W : World) (A A' : Option Addr) (c c' : Nat) (a : RdB W W.heap.size A x) (b : RdB W W.heap.size A' y) => K.hits W A A' c c' x y r a b nx ny fx fy
  have HR := Lib.hid fun (W : World) (A A' : Option Addr) (c c' : Nat) (a : RdB W W.heap.size A x) (b : RdB W W.heap.size A' y) => rhits_any (c := c) (c2 := c') a b nx ny fx fy r
  have SX := Lib.hid fun (W : World) (A A' : Option Addr) (c c' : Nat) (a : RdB W W.heap.size A x) (b : RdB W W.heap.size A' x) => rsame_yes (c1 := c) (c2 := c') a b (by omega)
  have SY := Lib.hid fun (W : World) (A A' : Option Addr) (c c' : Nat) (a : RdB W W.heap.size A y) (b : RdB W W.heap.size A' y) => rsame_yes (c1 := c) (c2 := c') a b (by omega)
  have hln : (Sy.hits r x y).length ≤ 1000 := by
    have := List.length_filterMap_le (Sy.hitOf r x y) (sortL Bn.id x)
    rw [sort_len] at this
    show (List.filterMap _ _).length ≤ _
    omega
  have SH := Lib.hid fun (W : World) (A A' : Option Addr) (c c' B B' : Nat) (a : OwnH W B (.slice A (Sy.hits r x y).length c) (Sy.hits r x y)) (b : OwnH W B' (.slice A' (Sy.hits r x y).length c') (Sy.hits r x y)) => rsameh_yes a b (by omega)
  have AW := Lib.hid K.awake
  clear K fx fy nx ny hln
  generalize hH : Sy.hits r x y = H at *
  generalize hn : H.length = nH at *
  generalize hx : x.length = n1 at *
  generalize hy : y.length = n2 at *
  replace hx := Lib.hid hx
  replace hy := Lib.hid hy
  replace hn := Lib.hid hn
  clear hH
  generalize l1.length = m1 at *
  generalize l2.length = m2 at *
  have B0 := Lib.hid (Below.refl w.heap.size w)
  go_enter Try.func3, Try.ntmps3
  go_upto_region 2 with (first
    | (go_at_call 11; refine FW1.out.mono ?_; rintro e w1 ⟨⟨d1, rfl, _, _⟩, rfl⟩; clear FW1)
    | (go_at_call 11; refine FW2.out.mono ?_; rintro e w2 ⟨⟨d2, rfl, _, _⟩, rfl⟩; clear FW2))
  obtain ⟨Aa, ca, w1, hr1, P1⟩ := AP1.out _ B0.out d1
  obtain ⟨Ab, cb, w2, hr2, P2⟩ := AP2.out _ P1.out.2.2 d2
  replace hr1 := Lib.hid hr1
  replace hr2 := Lib.hid hr2
  clear AP1 AP2 B0
  go_upto_region 3 with (first
    | (at_builtin; refine wpList_append _ rfl (.tmp 13) (.tmp 14) _ _ rfl _ _ rfl rfl _ _ hr1.out ?_)
    | (at_builtin; refine wpList_append _ rfl (.tmp 16) (.tmp 17) _ _ rfl _ _ rfl rfl _ _ hr2.out ?_))
  have Ra := Lib.hid ((P1.out.1.below P2.out.2.1).more P2.out.2.1.size)
  have Rb := Lib.hid P2.out.1
  have B2 := Lib.hid P2.out.2.2
  clear hr1 hr2 P1 P2
  go_wp2_with (first
    | (go_at_call 13; refine (HK.out _ _ _ _ _ Ra.out Rb.out).mono ?_; rintro e w3 ⟨H1, e1, rfl, o1, b1⟩; replace Ra := Lib.hid ((Ra.out.below b1).more b1.size); replace Rb := Lib.hid ((Rb.out.below b1).more b1.size); replace B2 := Lib.hid (B2.out.trans (b1.mono B2.out.size)); replace o1 := Lib.hid o1; clear HK b1)
    | (go_at_call 14; refine (HR.out _ _ _ _ _ (Rx.out _ B2.out) (Ry.out _ B2.out)).mono ?_; rintro e w4 ⟨H2, e2, rfl, o2, b2⟩; replace o1 := Lib.hid (ownh_below o1.out b2); replace Ra := Lib.hid ((Ra.out.below b2).more b2.size); replace Rb := Lib.hid ((Rb.out.below b2).more b2.size); replace B2 := Lib.hid (B2.out.trans (b2.mono B2.out.size)); replace o2 := Lib.hid o2; clear HR b2)
    | (go_at_call 12; refine (SH.out _ _ _ _ _ _ _ o1.out o2.out).mono ?_; rintro e w5 ⟨rfl, b3⟩; replace Ra := Lib.hid ((Ra.out.below b3).more b3.size); replace Rb := Lib.hid ((Rb.out.below b3).more b3.size); replace B2 := Lib.hid (B2.out.trans (b3.mono B2.out.size)); clear SH b3 o1 o2)
    | (go_at_call 15; refine (SX.out _ _ _ _ _ Ra.out (Rx.out _ B2.out)).mono ?_; rintro e w6 ⟨rfl, b4⟩; replace Rb := Lib.hid ((Rb.out.below b4).more b4.size); replace B2 := Lib.hid (B2.out.trans (b4.mono B2.out.size)); clear SX Ra Rx b4)
    | (go_at_call 15; refine (SY.out _ _ _ _ _ Rb.out (Ry.out _ B2.out)).mono ?_; rintro e w7 ⟨rfl, b5⟩; replace B2 := Lib.hid (B2.out.trans (b5.mono B2.out.size)); clear SY Rb Ry b5)
    | (go_at_call 16; refine (AW.out _).mono ?_; rintro e w8 ⟨rfl, b6⟩; replace B2 := Lib.hid (B2.out.trans (b6.mono B2.out.size)); clear AW b6))
  go_ret
  exact ⟨rfl, B2.out⟩
end Go.Proofs.Ytfmbldjaknjgbaa
