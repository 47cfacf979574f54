/- wal.made of a text whose bytes are all wanted; what it calls of package strings. -/
import Derived.Test.YtpafialojcidnaaGreatDoorWlDig
import Derived.Test.YtpafialojcidnaaGreatDoorFrAll
import Derived.Lib.OthersKept
import Derived.Deep.LoopGhost
import Derived.Shelf.GgClosure.Gives
namespace Go.Proofs.YtpafialojcidnaaGreatDoor
open Go.RowKit Dk
set_option linter.unusedVariables false

theorem index_mem : ∀ {q : Str} {c : UInt8}, c ∈ q → 0 ≤ Lib.indexByte q c
  | [], _, h => by cases h
  | b :: q, c, h => by
    unfold Lib.indexByte
    split
    · exact Int.le_refl _
    · rename_i hb
      have hq : c ∈ q := by
        rcases List.mem_cons.1 h with rfl | h
        · simp at hb
        · exact h
      have := index_mem hq
      rw [if_neg (by simp; omega)]
      omega

set_option maxHeartbeats 1000000 in
set_option maxRecDepth 100000 in
theorem pred_any (q : Str) (c : UInt8) (W : World) (b : Nat) (hb : W.heap[b]? = some (.cells #[.string ⟨q.toArray⟩] 9 (0, 0))) (hc : c.toNat < 128) (hq : c ∈ q) :
    Calls Tryz.prog 72 #[.int .i32 (c.toNat : Int), .pointer (some ⟨b, 0, none⟩)] W fun e w' => e = .returned (.bool false) ∧ w' = W := by
  have k0 : W.cell? ⟨b, 0, none⟩ = some (.string ⟨q.toArray⟩) := by simp [World.cell?, hb]
  have X := Tryz.strings_ContainsRune_ascii ⟨q.toArray⟩ (c.toNat : Int) W (by omega) (by omega)
  have hi : decide (0 ≤ Lib.indexByte (ByteArray.mk q.toArray).data.toList ((c.toNat : Int).toNat.toUInt8)) = true := by
    have : ((c.toNat : Int).toNat.toUInt8) = c := by simp
    rw [this]
    exact decide_eq_true (index_mem hq)
  rw [hi] at X
  have HX := Lib.hid X
  clear X hi hb hq
  go_enter Tryz.func72, Tryz.ntmps72
  go_wp2_with (go_at_call 73; refine HX.out.mono ?_; rintro e w' ⟨rfl, rfl⟩)
  go_ret
  exact ⟨rfl, rfl⟩

set_option maxHeartbeats 2000000 in
set_option maxRecDepth 100000 in
theorem indexFunc_any (l q : Str) (w : World) (b : Nat) (hb : w.heap[b]? = some (.cells #[.string ⟨q.toArray⟩] 9 (0, 0))) (hl : ∀ c ∈ l, c.toNat < 128 ∧ c ∈ q) (hlen : l.length ≤ 1000) :
    Calls Tryz.prog 110 #[.string ⟨l.toArray⟩, .func (.func 72) #[] #[.pointer (some ⟨b, 0, none⟩)], .bool true] w fun e w' => e = .returned (.int .i64 (-1)) ∧ Below w.heap.size w w' := by
  have hsz : (ByteArray.mk l.toArray).size = l.length := by simp [ByteArray.size]
  have HB := Lib.hid hb
  have HL := Lib.hid hl
  have hblt : b < w.heap.size := (Array.getElem?_eq_some_iff.1 hb).1
  clear hb hl
  go_enter Tryz.func110, Tryz.ntmps110
  go_wp2
  go_loopg [] l.length (fun gf wx => ∃ pos : Nat, wx.heap[w.heap.size]? = some (.stringIter ⟨l.toArray⟩ pos) ∧ Below w.heap.size w wx ∧ pos + gf = l.length)
  case atStart => exact ⟨0, World.iter_heap w _ 0, (Below.refl _ w).alloc (Nat.le_refl _) _, by omega⟩
  case round =>
    obtain ⟨pos, hit, hbw, hfu⟩ := hrel
    by_cases hps : pos < l.length
    · obtain ⟨g', rfl⟩ : ∃ g', gk = g' + 1 := ⟨gk - 1, by omega⟩
      have hps' : pos < (ByteArray.mk l.toArray).size := by rw [hsz]; exact hps
      have hbyte : (ByteArray.mk l.toArray)[pos]'hps' = l[pos] := by simp [ByteArray.getElem_eq_getElem_data]
      obtain ⟨h1, h2⟩ := HL.out l[pos] (List.getElem_mem hps)
      have hnx : ∀ ty, (Instr.next (.pointer (some ⟨w.heap.size, 0, none⟩)) true ty).run Tryz.prog wr = _ := fun ty => Lib.run_next_ascii_at wr w.heap.size _ pos ty hit hps' (by rw [hbyte]; exact h1)
      rw [hbyte] at hnx
      have hit2 := Lib.iterAt_heap wr w.heap.size _ pos (pos + 1) hit
      have hbw2 := Lib.below_iterAt hbw (k := w.heap.size) (Nat.le_refl _) ⟨l.toArray⟩ (pos + 1)
      obtain ⟨W, hWd⟩ : ∃ W, wr.iterAt w.heap.size ⟨l.toArray⟩ (pos + 1) = W := ⟨_, rfl⟩
      rw [hWd] at hnx hit2 hbw2
      have cS := Lib.hid (pred_any q l[pos] W b ((hbw2.block b hblt).trans HB.out) h1 h2)
      generalize (l[pos] : UInt8).toNat = R at *
      have IT := Lib.hid hit2
      have BW := Lib.hid hbw2
      clear hit hbw hit2 hbw2 hWd hbyte h1 h2 hps'
      go_wp2_with fail
      refine cS.out.mono ?_
      rintro e W' ⟨rfl, rfl⟩
      go_wp2
      go_roundg g'
      case measure => omega
      case rel => exact ⟨pos + 1, IT.out, BW.out, by omega⟩
    · have hnx : ∀ ty, (Instr.next (.pointer (some ⟨w.heap.size, 0, none⟩)) true ty).run Tryz.prog wr = _ := fun ty => Lib.run_next_end_at wr w.heap.size _ pos ty hit (by rw [hsz]; exact hps)
      go_wp2
      go_ret
      exact ⟨rfl, hbw⟩

set_option maxHeartbeats 1000000 in
set_option maxRecDepth 100000 in
theorem made_any (l q : Str) (w : World) (hl : ∀ c ∈ l, c.toNat < 128 ∧ c ∈ q) (hlen : l.length ≤ 1000) :
    Calls Tryz.prog 58 #[.string ⟨l.toArray⟩, .string ⟨q.toArray⟩] w fun e w' => e = .returned (.bool true) ∧ Below w.heap.size w w' := by
  have hx := at1 w (.cells #[.string ⟨q.toArray⟩] 9)
  have hbel := bel1 w (.cells #[.string ⟨q.toArray⟩] 9)
  have F := Lib.hid (indexFunc_any l q _ w.heap.size hx hl hlen)
  have G : Hid (Calls Tryz.prog 94 #[.string ⟨l.toArray⟩, .func (.func 72) #[] #[.pointer (some ⟨w.heap.size, 0, none⟩)]] (w.alloc (.cells #[.string ⟨q.toArray⟩] 9)) fun e w' => e = .returned (.int .i64 (-1)) ∧ Below (w.alloc (.cells #[.string ⟨q.toArray⟩] 9)).heap.size (w.alloc (.cells #[.string ⟨q.toArray⟩] 9)) w') := by
    refine Lib.hid ?_
    clear hx hbel hl
    go_enter Tryz.func94, Tryz.ntmps94
    go_wp2_with (go_at_call 110; refine F.out.mono ?_; rintro e w1 ⟨rfl, b1⟩)
    go_ret
    exact ⟨rfl, b1⟩
  have H : Hid (Calls Tryz.prog 71 #[.string ⟨l.toArray⟩, .func (.func 72) #[] #[.pointer (some ⟨w.heap.size, 0, none⟩)]] (w.alloc (.cells #[.string ⟨q.toArray⟩] 9)) fun e w' => e = .returned (.bool false) ∧ Below (w.alloc (.cells #[.string ⟨q.toArray⟩] 9)).heap.size (w.alloc (.cells #[.string ⟨q.toArray⟩] 9)) w') := by
    refine Lib.hid ?_
    clear hx hbel hl F
    go_enter Tryz.func71, Tryz.ntmps71
    go_wp2_with (go_at_call 94; refine G.out.mono ?_; rintro e w1 ⟨rfl, b1⟩)
    go_ret
    exact ⟨rfl, b1⟩
  have HB := Lib.hid hbel
  clear hx hbel hl F G
  go_enter Tryz.func58, Tryz.ntmps58
  go_wp2_with (go_at_call 71; refine H.out.mono ?_; rintro e w1 ⟨rfl, b1⟩)
  go_ret
  exact ⟨rfl, HB.out.trans (b1.mono HB.out.size)⟩
end Go.Proofs.YtpafialojcidnaaGreatDoor
