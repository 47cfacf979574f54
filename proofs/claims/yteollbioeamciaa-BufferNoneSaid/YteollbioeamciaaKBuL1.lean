/- The law BufferNone, walked. Written by wip/tools/genbulaw.py. -/
import Derived.Test.YteollbioeamciaaKBuF
import Derived.Test.YteollbioeamciaaKBuC
namespace Go.Proofs.Yteollbioeamciaa
open Go.RowKit Pz Ar Bu Sp
set_option linter.unusedVariables false
set_option linter.unusedSimpArgs false

set_option maxHeartbeats 16000000 in
set_option maxRecDepth 100000 in
theorem law_none (w : World) (A : Option Addr) (c : Nat) (l0 : List De) (hc : l0.length ≤ c) (hcap : c ≤ 140737488351232) (hF : ∀ x ∈ l0, Fit x.b.m ∧ Fit x.m) (R : RdDe w w.heap.size A l0) :
    Calls Try.prog 8 #[.slice A l0.length c] w fun e w' => e = .returned (.bool true) ∧ Below w.heap.size w w' := by
  have N := Lib.hid (sep_store (sep_new w))
  obtain ⟨s, hs⟩ : ∃ s, s = w.heap.size := ⟨_, rfl⟩
  have FW := Lib.hid fun W (hW : Below w.heap.size w W) => few_any ((R.below hW).more hW.size) hc hcap
  obtain ⟨l, hl⟩ : ∃ l, l = l0.take 60 := ⟨_, rfl⟩
  have hl6 : l.length ≤ 60 := by rw [hl, List.length_take]; omega
  have RX := Lib.hid fun W (hW : Below w.heap.size w W) => (R.take 60).below hW
  have FX : Hid (∀ x ∈ l, Fit x.b.m ∧ Fit x.m) := Lib.hid fun x hx => hF x (List.mem_of_mem_take (hl ▸ hx))
  rw [← hl] at RX FW
  rw [← hs] at N
  clear hl hs hl6 RX FX R hF hc hcap
  have AN := Lib.hid add_nil
  have BN := Lib.hid blen_nil
  have LN := Lib.hid list_nil
  have FN := Lib.hid flush_nil
  have SL : Hid (∀ V, Sep w [stC s T0] V → Calls Try.prog 24 #[.pointer (some ⟨s, 0, none⟩)] V fun e V' => e = .returned (.int .i64 0) ∧ V = V') := Lib.hid fun V hV => by
    have := hV.len 0 rfl
    rw [total_none] at this
    exact this
  have AW := Lib.hid awake_any
  generalize l0.length = n0 at *
  generalize l.length = n1 at *
  go_enter Try.func8, Try.ntmps8
  go_wp2_with (first
    | (go_at_call 9; refine N.out.mono ?_; rintro e w1 ⟨rfl, h1⟩; clear N)
    | (go_at_call 10; refine (FW.out _ h1.bel).mono ?_; rintro e w2 ⟨⟨c', rfl, _, _⟩, rfl⟩; clear FW)
    | (go_at_call 16; refine (AN.out _ _).mono ?_; rintro e w3 ⟨rfl, rfl⟩; clear AN)
    | (go_at_call 18; refine (BN.out _).mono ?_; rintro e w4 ⟨rfl, rfl⟩; clear BN)
    | (go_at_call 17; refine (LN.out _).mono ?_; rintro e w5 ⟨rfl, rfl⟩; clear LN)
    | (go_at_call 19; refine (FN.out _ _).mono ?_; rintro e w6 ⟨rfl, rfl⟩; clear FN)
    | (go_at_call 24; refine (SL.out _ h1).mono ?_; rintro e w7 ⟨rfl, rfl⟩; clear SL)
    | (go_at_call 14; refine (AW.out _).mono ?_; rintro e w9 ⟨rfl, b9⟩; clear AW))
  go_ret
  exact ⟨rfl, h1.bel.trans (b9.mono h1.bel.size)⟩
end Go.Proofs.Yteollbioeamciaa
