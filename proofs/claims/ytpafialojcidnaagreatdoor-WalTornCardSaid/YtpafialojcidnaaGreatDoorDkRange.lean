/- Going over the files; Crash. -/
import Derived.Test.YtpafialojcidnaaGreatDoorDkOps3
import Derived.Sort.KeysCollected
import Derived.Laws.IdiomRangeMap
import Derived.LoopN
namespace Go.Proofs.YtpafialojcidnaaGreatDoor
open Go.RowKit Go.Maps Dk
set_option linter.unusedVariables false

section
variable {P : Program} (w : World) {ops : Array Oper} {rest : List Oper} {o : Oper} {a : Act} {Q : Exit → Act → World → Prop}
theorem wpList_next (hg : o.guard = none) (it : Operand) (hop : o.op = Op.next it false) (iv : Value) (hit : a.eval it = iv) (v : Value) (w' : World) (hrun : (Instr.next iv false o.type).run P w = .ok v w') (hK : wpList P ops Q rest (a.put o.dst v) w') : wpList P ops Q (o :: rest) a w := by
  refine wpList_plain hg fun K' hK' => ?_
  unfold Oper.wp
  simp [execOp, hop, hit, hrun, Result.andThen]
  exact hK' _ _ hK
theorem wpList_range (hg : o.guard = none) (m : Operand) (t : TypeId) (hop : o.op = Op.range t m) (mv : Value) (hm : a.eval m = mv) (v : Value) (w' : World) (hrun : (Instr.range t mv).run P w = .ok v w') (hK : wpList P ops Q rest (a.put o.dst v) w') : wpList P ops Q (o :: rest) a w := by
  refine wpList_plain hg fun K' hK' => ?_
  unfold Oper.wp
  simp [execOp, hop, hm, hrun, Result.andThen]
  exact hK' _ _ hK
end
/-- what the map says of the files -/
structure Tells (D : DataW Unit) (L : List Fl) (φ : Str → Nat × Value) : Prop where
  size : Maps.size D = L.length
  has : ∀ s, Maps.has D (.string s) = Dk.has L s
  at_ : ∀ f ∈ L, D.atKey (.string f.name) .nil = .lit (.int .i64 ((φ f.name).1 : Int))
theorem Lay.tells {W : World} {B d m : Nat} {K : St} {φ : Str → Nat × Value} (h : Lay W B d K φ (.map (some m))) : ∃ D, Tells D K.L φ ∧ W.ownsMap Tryz.prog 9 fptr m (Maps.size D) D := by
  rcases h.map with ⟨hm, _⟩ | ⟨m', D, h0, h1, h2, h3, h4, h5⟩
  · cases hm
  · cases h0
    exact ⟨D, ⟨h3, h4, h5⟩, h2⟩
theorem Tells.step {D : DataW Unit} {L : List Fl} {φ : Str → Nat × Value} (h : Tells D L φ) {key v : Value} {kl : Lit} {y : DataW Unit × List MemPlace} (hkey : keyOf Tryz.prog 9 key = some kl) (hv : fptr v = some y) (hat : ∀ zd, D.atKey kl zd = y.1) :
    ∃ f ∈ L, key = .string ⟨f.name.toArray⟩ ∧ kl = .string f.name ∧ v = .pointer (some ⟨(φ f.name).1, 0, none⟩) := by
  obtain ⟨x, rfl, rfl, _⟩ := keyOf_str Tryz.underlying9 hkey
  have hh := has_true_of_atKey hat
  rw [h.has] at hh
  obtain ⟨f, hf, rfl⟩ := has_iff.1 hh
  have h1 := h.at_ f hf
  rw [hat] at h1
  exact ⟨f, hf, rfl, rfl, fptr_inv (ps := y.2) (by rw [hv, ← h1])⟩
theorem ranges_kept {W W' : World} {m r n cnt : Nat} {D : DataW Unit} {left : Lit → Bool} (h : W.ranges Tryz.prog 9 fptr m r n D left cnt) (hm : W'.heap[m]? = W.heap[m]?) (hr : W'.heap[r]? = W.heap[r]?) : W'.ranges Tryz.prog 9 fptr m r n D left cnt := by
  obtain ⟨es, clock, since, seen, c0, h1, h2, h3, h4, h5, rest⟩ := h
  exact ⟨es, clock, since, seen, c0, hm.trans h1, h2, h3, h4, hr.trans h5, rest⟩
theorem ranges_iter {W : World} {m r n cnt : Nat} {D : DataW Unit} {left : Lit → Bool} (h : W.ranges Tryz.prog 9 fptr m r n D left cnt) : ∃ a b c d, W.heap[r]? = some (.mapIter a b c d) := by
  obtain ⟨es, clock, since, seen, c0, h1, h2, h3, h4, h5, rest⟩ := h
  exact ⟨_, _, _, _, h5⟩
/-- a step of the iterator turns the iterator alone -/
theorem kp_iter {W W' : World} {r : Nat} (hg : W.grownBy W' (some r)) (h : ∃ a b c d, W.heap[r]? = some (.mapIter a b c d)) : Kp isDsk W W' :=
  Kp.grown hg fun k o hk ho => by
    obtain ⟨a, b, c, d, h⟩ := h
    cases hk
    rw [h] at ho
    cases ho
    rfl

theorem Gone.step {p : Obj → Bool} {B : Nat} {w wr w1 : World} {r : Nat} (h : Gone p B w wr) (hg : wr.grownBy w1 (some r)) (hr : w.heap.size ≤ r) (hB : B ≤ w.heap.size) : Gone p B w w1 :=
  ⟨h.bel.grown hg (Nat.le_trans hB h.size) (fun k hk => by cases hk; omega), fun b o hb hp => by
    have h1 := h.kp b o hb hp
    exact (hg.block b (heap_lt h1) (fun e => by have := heap_lt hb; injection e with e; omega)).trans h1⟩
/-! ### Crash -/
/-- what Crash has come to -/
def half (left : Lit → Bool) (n : Int) (f : Fl) : Fl := if left (.string f.name) then f else kept n f
theorem half_name (left : Lit → Bool) (n : Int) (f : Fl) : (half left n f).name = f.name := by unfold half; split <;> rfl
theorem half_names (L : List Fl) (left : Lit → Bool) (n : Int) : (L.map (half left n)).map (·.name) = L.map (·.name) := by
  rw [List.map_map]; exact List.map_congr_left fun f _ => half_name left n f
theorem half_start {D : DataW Unit} {L : List Fl} {φ : Str → Nat × Value} (h : Tells D L φ) (n : Int) : L.map (half (Maps.has D) n) = L := by
  conv => rhs; rw [← List.map_id L]
  refine List.map_congr_left fun f hf => ?_
  unfold half
  rw [if_pos ((h.has _).trans (has_mem hf))]
  rfl
theorem half_end {L : List Fl} {left : Lit → Bool} (n : Int) (h : ∀ kl, left kl = false) : L.map (half left n) = L.map (kept n) :=
  List.map_congr_left fun f _ => by unfold half; rw [h]; rfl
theorem half_step {L : List Fl} (hs : Sorted L) {left : Lit → Bool} {f : Fl} (hf : f ∈ L) (hl : left (.string f.name) = true) (n : Int) {g : Fl → Fl} (hg : g f = kept n f) :
    upd (L.map (half left n)) f.name g = L.map (half (fun z => left z && !z.sameKey (.string f.name)) n) := by
  unfold upd
  rw [List.map_map]
  refine List.map_congr_left fun a ha => ?_
  show (if (half left n a).name = f.name then g (half left n a) else half left n a) = _
  rw [half_name]
  by_cases hn : a.name = f.name
  · obtain rfl := sorted_inj hs ha hf hn
    rw [if_pos rfl]
    unfold half
    simp only [hl, if_true, Lit.sameKey, hg]
    simp
  · rw [if_neg hn]
    unfold half
    have : (Lit.string a.name).sameKey (.string f.name) = false := by simpa [Lit.sameKey] using hn
    simp only [this, Bool.not_false, Bool.and_true]
theorem kept_cut (n : Int) (f : Fl) (j : Nat) (hj : max 0 (min n (f.loose.length : Int)) = (j : Int)) : (⟨f.name, (cutAt (f.sure.length + j) f).all, []⟩ : Fl) = kept n f := by
  rw [cutAt_all]
  unfold kept Fl.all
  congr 1
  rw [List.take_append, List.take_of_length_le (by omega), show f.sure.length + j - f.sure.length = j by omega]
  congr 1
  rcases Nat.lt_or_ge f.loose.length n.toNat with h | h
  · rw [List.take_of_length_le (by omega), List.take_of_length_le (by omega)]
  · congr 1; omega
theorem upd_upd {L : List Fl} {s : Str} {g g' : Fl → Fl} (hg : ∀ f, f.name = s → (g f).name = s) : upd (upd L s g) s g' = upd L s fun f => g' (g f) := by
  unfold upd
  rw [List.map_map]
  refine List.map_congr_left fun a _ => ?_
  show (if (if a.name = s then g a else a).name = s then g' (if a.name = s then g a else a) else (if a.name = s then g a else a)) = _
  by_cases h : a.name = s
  · simp [h, hg a h]
  · simp [h]

theorem Lay.crashed {w : World} {B d : Nat} {K : St} {φ : Str → Nat × Value} {mv : Value} (h : Lay w B d K φ mv) :
    Lay (((w.setCell ⟨d, 1, none⟩ (.bool false)).setCell ⟨d, 2, none⟩ (.int .i64 0)).setCell ⟨d, 3, none⟩ (.bool false)) B d { K with room := none, dead := false } φ mv ∧ Gone isRef B w (((w.setCell ⟨d, 1, none⟩ (.bool false)).setCell ⟨d, 2, none⟩ (.int .i64 0)).setCell ⟨d, 3, none⟩ (.bool false)) := by
  have b1 := heap_setCell_same w d 1 _ _ (.bool false) h.box
  have b2 := heap_setCell_same _ d 2 _ _ (.int .i64 0) b1
  have b3 := heap_setCell_same _ d 3 _ _ (.bool false) b2
  exact ⟨h.turn rfl ⟨h.ok.sorted, h.ok.names, fun m hm => (by cases hm), h.ok.few, h.ok.small⟩ (fun b _ hb => (Below.heap_setCell _ _ _ _ hb).trans ((Below.heap_setCell _ _ _ _ hb).trans (Below.heap_setCell _ _ _ _ hb))) b3, (((Gone.refl _ _ _).set h.box (isRef_d _) h.base _).set b1 (isRef_d _) h.base _).set b2 (isRef_d _) h.base _⟩

set_option maxHeartbeats 8000000 in
set_option maxRecDepth 100000 in
theorem crash_nil (w : World) {B d : Nat} {K : St} {φ : Str → Nat × Value} (h : Lay w B d K φ (.map none)) (n : Int) (hn : -9223372036854775808 ≤ n ∧ n ≤ 9223372036854775807) :
    Calls Tryz.prog 40 #[.pointer (some ⟨d, 0, none⟩), .int .i64 n] w fun e w' => e = .returned (.tuple #[]) ∧ DiskAt w' B d (Dk.crash K n) ∧ Gone isRef B w w' := by
  have hL : K.L = [] := by
    rcases h.map with ⟨_, hL⟩ | ⟨m, D, hm, _⟩
    · exact hL
    · cases hm
  have e1 : Dk.crash K n = { K with room := none, dead := false } := by
    obtain ⟨L, r, dd⟩ := K
    simp only at hL
    subst hL
    rfl
  rw [e1]
  have hB : B ≤ w.heap.size := Nat.le_trans h.base (Nat.le_of_lt h.lt)
  have hal := bel1 w (.mapIter none 0 #[] 0)
  have h1 := h.below hal
  obtain ⟨hc, hg⟩ := h1.crashed
  obtain ⟨⟨c0, _, _, _⟩, _⟩ := box4 h.box
  obtain ⟨⟨_, c1, c2, c3⟩, _, z1, z2, z3⟩ := box4 h1.box
  have HL : Hid (DiskAt _ B d { K with room := none, dead := false }) := Lib.hid ⟨_, _, hc⟩
  have HG := Lib.hid (((Gone.refl isRef B w).below hB hal).trans hg)
  have R := Lib.hid (run_range_nilMap (P := Tryz.prog) w 63 _ _ Tryz.underlying63)
  have N := Lib.hid (run_next_nilMap (P := Tryz.prog) w 0 0 0 #[])
  clear h h1 hc hg hL e1 hB hal
  generalize K.room.isSome = q1 at *
  generalize ((K.room.getD 0 : Nat) : Int) = q2 at *
  generalize K.dead = q3 at *
  go_enter Tryz.func40, Tryz.ntmps40
  go_wp2_with (at_range; refine wpList_range _ rfl _ _ rfl _ rfl _ _ R.out ?_)
  generalize hw1 : w.alloc (.mapIter none 0 #[] 0) = w1 at *
  refine wp_loop_once ?_
  go_wp2_with (at_next; refine wpList_next _ rfl _ rfl _ rfl _ _ N.out ?_)
  go_end0
  exact ⟨rfl, HL.out, HG.out⟩

/-- a file cut, and all that is left of it sure -/
theorem shorten_sure (W : World) {B d : Nat} {K : St} {φ : Str → Nat × Value} {mv : Value} (h : Lay W B d K φ mv) {f : Fl} (hf : f ∈ K.L) (n : Nat) (hn : n ≤ f.all.length) :
    Calls Tryz.prog 50 #[.pointer (some ⟨(φ f.name).1, 0, none⟩), .int .i64 (n : Int)] W fun e w2 => e = .returned (.tuple #[]) ∧ ∃ A c v1, w2.cell? ⟨(φ f.name).1, 0, none⟩ = some (.slice A n c) ∧ w2.cell? ⟨(φ f.name).1, 1, none⟩ = some v1 ∧ w2.frozen? ⟨(φ f.name).1, 1, none⟩ = false ∧
      Hid (∃ φ', Lay (w2.setCell ⟨(φ f.name).1, 1, none⟩ (.int .i64 (n : Int))) B d { K with L := upd K.L f.name fun f => ⟨(cutAt n f).name, (cutAt n f).all, []⟩ } φ' mv ∧ (∀ s, (φ' s).1 = (φ s).1) ∧ Gone isRef B W (w2.setCell ⟨(φ f.name).1, 1, none⟩ (.int .i64 (n : Int))) ∧
        ∀ b, b ≠ (φ f.name).1 → (w2.setCell ⟨(φ f.name).1, 1, none⟩ (.int .i64 (n : Int))).heap[b]? = W.heap[b]?) := by
  refine (shorten_any W h hf n hn).mono ?_
  rintro e w2 ⟨rfl, ⟨φ2, k1, k2⟩, k3, k4⟩
  have hm : cutAt n f ∈ upd K.L f.name (cutAt n) := mem_upd.2 (.inr ⟨f, hf, rfl, rfl⟩)
  have hnm := cutAt_name n f
  have F := k1.file (cutAt n f) hm
  have hall : (cutAt n f).all.length = n := by rw [cutAt_all, List.length_take]; omega
  obtain ⟨A, c, hform⟩ := row_form F.row
  obtain ⟨⟨g0, g1⟩, _, gz⟩ := box2 F.box
  obtain ⟨s1, s2⟩ := k1.sured hm
  rw [hall] at s1 s2 hform
  rw [hform] at g0
  rw [hnm, k2] at g0 g1 gz s1 s2
  dsimp only at s1
  rw [upd_upd (fun a e => (cutAt_name n a).trans e)] at s1
  refine ⟨rfl, A, c, _, g0, g1, gz, Lib.hid ⟨up φ2 f.name (φ2 f.name), s1, fun s => ?_, k3.trans s2, fun b hb => (Below.heap_setCell _ _ _ _ hb).trans (k4 b hb)⟩⟩
  by_cases hs : s = f.name
  · subst hs; rw [up_same, k2]
  · rw [up_other hs, k2]

set_option maxHeartbeats 8000000 in
set_option maxRecDepth 100000 in
theorem crash_map (w : World) {B d m : Nat} {K : St} {φ : Str → Nat × Value} (h : Lay w B d K φ (.map (some m))) (n : Int) (hn : -9223372036854775808 ≤ n ∧ n ≤ 9223372036854775807) :
    Calls Tryz.prog 40 #[.pointer (some ⟨d, 0, none⟩), .int .i64 n] w fun e w' => e = .returned (.tuple #[]) ∧ DiskAt w' B d (Dk.crash K n) ∧ Gone isRef B w w' := by
  obtain ⟨D, hT, hown⟩ := h.tells
  obtain ⟨w0, hrun, hrg0, hg0, hs0⟩ := hown.range strKey Tryz.underlying63
  have hB : B ≤ w.heap.size := Nat.le_trans h.base (Nat.le_of_lt h.lt)
  have hb0 : Below w.heap.size w w0 := ⟨hg0.os, hg0.tape, hg0.output, hg0.size, fun k hk => hg0.block k hk (by simp)⟩
  have h0 := h.below hb0
  obtain ⟨⟨c0, _, _, _⟩, _⟩ := box4 h.box
  have HT := Lib.hid hT
  have HB := Lib.hid hB
  have HS := Lib.hid h.ok.sorted
  have HO := Lib.hid h.ok
  have hst : Hid (∃ left cnt φ', w0.ranges Tryz.prog 9 fptr m w.heap.size (Maps.size D) D left cnt ∧ Lay w0 B d { K with L := K.L.map (half left n) } φ' (.map (some m)) ∧ (∀ s, (φ' s).1 = (φ s).1) ∧ Gone isRef B w w0) :=
    Lib.hid ⟨_, _, φ, hrg0, by rw [half_start hT]; exact h0, fun _ => rfl, (Gone.refl _ _ _).below hB hb0⟩
  have R := Lib.hid hrun
  clear h hT hown hrun hrg0 hg0 hs0 hB hb0 h0
  go_enter Tryz.func40, Tryz.ntmps40
  go_wp2_with (at_range; refine wpList_range _ rfl _ _ rfl _ rfl _ _ R.out ?_)
  go_frame
  have HBW : Hid (B ≤ w.heap.size) := HB
  obtain ⟨r, hr⟩ : ∃ r, w.heap.size = r := ⟨_, rfl⟩
  have HRW : Hid (w.heap.size ≤ r) := Lib.hid (Nat.le_of_eq hr)
  rw [hr] at hst HB ⊢
  clear hr R
  go_loopw [5] (fun _ wr => Hid (∃ left cnt φ', wr.ranges Tryz.prog 9 fptr m r (Maps.size D) D left cnt ∧ Lay wr B d { K with L := K.L.map (half left n) } φ' (.map (some m)) ∧ (∀ s, (φ' s).1 = (φ s).1) ∧ Gone isRef B w wr)) (fun _ wr => wr.rangeLeft m r)
  case atStart => exact hst
  case round =>
    obtain ⟨left, cnt, φ', hrg, hL, hφ, hG⟩ := hrel.out
    rcases hrg.next strKey 0 with ⟨_, hl0, hnx⟩ | ⟨key, v, kl, y, w1, cnt1, hkey, hlk, hv, hat, hnx, hrg1, hlt, hg1, hs1, hen⟩
    · rw [half_end n hl0] at hL
      obtain ⟨hc, hg⟩ := hL.crashed
      obtain ⟨⟨_, c1, c2, c3⟩, _, z1, z2, z3⟩ := box4 hL.box
      have HL : Hid (DiskAt _ B d (Dk.crash K n)) := Lib.hid ⟨_, _, hc⟩
      have HG := Lib.hid (hG.trans hg)
      have N := Lib.hid hnx
      clear hnx hrg hL hc hg hφ hG hrel
      go_wp2_with (at_next; refine wpList_next _ rfl _ rfl _ rfl _ _ N.out ?_)
      go_end0
      exact ⟨rfl, HL.out, HG.out⟩
    · obtain ⟨f, hf, rfl, rfl, rfl⟩ := HT.out.step hkey hv hat
      have hcur : half left n f = f := if_pos hlk
      have hfc : f ∈ K.L.map (half left n) := List.mem_map.2 ⟨f, hf, hcur⟩
      have hL1 := hL.kp (kp_iter hg1 (ranges_iter hrg))
      have hbs := hL1.box
      obtain ⟨⟨f0, f1⟩, _⟩ := box2 (hL1.file f hfc).box
      obtain ⟨A, c, hform⟩ := row_form (hL1.file f hfc).row
      rw [hform] at f0
      rw [hφ] at f0 f1
      have hsm := HO.out.small f hf
      have hal : (f.all.length : Int) - (f.sure.length : Int) = (f.loose.length : Int) := by simp only [Fl.all, List.length_append]; omega
      obtain ⟨j, hj⟩ : ∃ j : Nat, max 0 (min n (f.loose.length : Int)) = (j : Int) := ⟨(max 0 (min n (f.loose.length : Int))).toNat, by omega⟩
      have hjl : j ≤ f.loose.length := by omega
      have hall : f.all.length = f.sure.length + f.loose.length := by simp only [Fl.all, List.length_append]
      have hsum : (f.sure.length : Int) + (j : Int) = ((f.sure.length + j : Nat) : Int) := by omega
      have hfm := hL1.file_m hfc (b := (φ' f.name).1) (.inl rfl) rfl
      have hfr : (φ' f.name).1 ≠ r := by
        obtain ⟨a1, a2, a3, a4, hit⟩ := ranges_iter hrg1
        exact ne_heap (hL1.file f hfc).box hit (fun e => by cases e)
      have S : Hid (∀ W, Below w1.heap.size w1 W → Calls Tryz.prog 50 #[.pointer (some ⟨(φ f.name).1, 0, none⟩), .int .i64 ((f.sure.length + j : Nat) : Int)] W fun e w2 => e = .returned (.tuple #[]) ∧ ∃ A c v1, w2.cell? ⟨(φ f.name).1, 0, none⟩ = some (.slice A (f.sure.length + j) c) ∧ w2.cell? ⟨(φ f.name).1, 1, none⟩ = some v1 ∧ w2.frozen? ⟨(φ f.name).1, 1, none⟩ = false ∧
          Hid (Hid (∃ left cnt φ', (w2.setCell ⟨(φ f.name).1, 1, none⟩ (.int .i64 ((f.sure.length + j : Nat) : Int))).ranges Tryz.prog 9 fptr m r (Maps.size D) D left cnt ∧ Lay (w2.setCell ⟨(φ f.name).1, 1, none⟩ (.int .i64 ((f.sure.length + j : Nat) : Int))) B d { K with L := K.L.map (half left n) } φ' (.map (some m)) ∧ (∀ s, (φ' s).1 = (φ s).1) ∧ Gone isRef B w (w2.setCell ⟨(φ f.name).1, 1, none⟩ (.int .i64 ((f.sure.length + j : Nat) : Int)))) ∧
            (w2.setCell ⟨(φ f.name).1, 1, none⟩ (.int .i64 ((f.sure.length + j : Nat) : Int))).rangeLeft m r < wr.rangeLeft m r)) := Lib.hid fun W hW => by
        rw [← hφ]
        refine (shorten_sure W (hL1.below hW) hfc (f.sure.length + j) (by omega)).mono ?_
        rintro e w2 ⟨rfl, A2, c2, v2, g0, g1, gz, hk⟩
        obtain ⟨φ3, k1, k2, k3, k4⟩ := hk.out
        have hrg3 := ranges_kept hrg1 (W' := w2.setCell ⟨(φ' f.name).1, 1, none⟩ (.int .i64 ((f.sure.length + j : Nat) : Int))) ((k4 m (Ne.symm hfm)).trans (hW.block m hrg1.owns.lt)) ((k4 r (Ne.symm hfr)).trans (hW.block r hrg1.lt))
        refine ⟨rfl, A2, c2, v2, g0, g1, gz, Lib.hid ⟨Lib.hid ⟨_, _, φ3, hrg3, ?_, fun s => (k2 s).trans (hφ s), ?_⟩, by rw [hrg3.left_eq, hrg.left_eq]; exact hlt⟩⟩
        · rw [half_step (g := fun f_1 => ⟨(cutAt (f.sure.length + j) f_1).name, (cutAt (f.sure.length + j) f_1).all, []⟩) HS.out hf hlk n (by rw [cutAt_name]; exact kept_cut n f j hj)] at k1
          exact k1
        · have g2 : Gone isRef B w w1 := hG.step hg1 HRW.out HBW.out
          exact (g2.below (Nat.le_trans HBW.out g2.size) hW).trans k3
      have N := Lib.hid hnx
      have hs1 : (f.sure.length : Int) ≤ 4194304 := by omega
      have hs2 : (f.all.length : Int) ≤ 4194304 := by omega
      have hs3 : (j : Int) ≤ 4194304 := by omega
      clear hnx hrg hL hφ hG hrel hkey hlk hv hat hrg1 hlt hg1 hcur hfc hL1 hbs hform hsm hjl hall hfm hfr hf
      generalize (φ f.name).1 = fb at *
      generalize f.all.length = la at *
      generalize f.loose.length = ll at *
      generalize hse : f.sure.length = ls at *
      clear hse
      generalize ls + j = lj at *
      go_wp2_with (at_next; refine wpList_next _ rfl _ rfl _ rfl _ _ N.out ?_)
      go_quiet (fail)
      go_wp2_with (go_at_call 50; refine (S.out _ (below_dn _ _)).mono ?_; rintro e w2 ⟨rfl, A2, c2, v2, g0, g1, gz, hk⟩)
      go_roundw
      case rel => exact hk.out.1
      case measure => exact hk.out.2

/-- Crash. -/
theorem crash_any (w : World) {B d : Nat} {K : St} (h : DiskAt w B d K) (n : Int) (hn : -9223372036854775808 ≤ n ∧ n ≤ 9223372036854775807) :
    Calls Tryz.prog 40 #[.pointer (some ⟨d, 0, none⟩), .int .i64 n] w fun e w' => e = .returned (.tuple #[]) ∧ DiskAt w' B d (Dk.crash K n) ∧ Gone isRef B w w' := by
  obtain ⟨φ, mv, h⟩ := h
  rcases h.map with ⟨rfl, _⟩ | ⟨m, D, rfl, _⟩
  · exact crash_nil w h n hn
  · exact crash_map w h n hn
end Go.Proofs.YtpafialojcidnaaGreatDoor
