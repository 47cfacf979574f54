/- The document's open, down, fits, Cut, put, take. -/
import Derived.Test.YtklgiocihknebaaDkRef
import Derived.Sort.Walk0
namespace Go.Proofs.Ytklgiocihknebaa
open Go.RowKit Go.Maps Dk
set_option linter.unusedVariables false

set_option maxHeartbeats 4000000 in
set_option maxRecDepth 100000 in
theorem ropen_any (s : Str) (w : World) {B d : Nat} {K : St} {v : Value} {q : Int} (h : RLay w B d K v q) (hs : s.length ≤ 140737488351232) :
    Calls Try.prog 49 #[.pointer (some ⟨d, 0, none⟩), .string ⟨s.toArray⟩] w fun e w' => e = .returned (.tuple #[.int .i64 ((if err K s = 0 then pos K.L s else 0 : Nat) : Int), .int .i64 (err K s : Nat)]) ∧ w = w' := by
  have F := rat_any s w h hs
  obtain ⟨⟨_, _, _, c3⟩, _⟩ := box4 h.box
  have he : err K s = if bad s then 1 else if K.dead then 12 else if Dk.has K.L s then 0 else 6 := rfl
  have he0 : err0 K s = if bad s then 1 else if Dk.has K.L s then 0 else 6 := rfl
  clear h hs
  generalize err K s = e at *
  generalize err0 K s = e0 at *
  generalize Dk.has K.L s = hh at *
  generalize bad s = b at *
  generalize pos K.L s = f at *
  generalize K.dead = dd at *
  cases b <;> cases hh <;> cases dd <;> (simp only [Bool.false_eq_true, if_true, if_false] at he he0; subst he he0)
  all_goals
    simp only [Nat.reduceEqDiff, if_true, if_false] at F ⊢
    have F2 := Lib.hid F
    clear F
    go_enter Try.func49, Try.ntmps49
    go_wp2_with (go_at_call 40; refine F2.out.mono ?_; rintro e w' ⟨rfl, rfl⟩)
    go_ret2
    exact ⟨rfl, rfl⟩

set_option maxHeartbeats 4000000 in
set_option maxRecDepth 100000 in
theorem rdown_any (w : World) {B d : Nat} {K : St} {v : Value} {q : Int} (h : RLay w B d K v q) :
    Calls Try.prog 52 #[.pointer (some ⟨d, 0, none⟩)] w fun e w' => e = .returned (.int .i64 ((if K.dead then 12 else 0 : Nat) : Int)) ∧ w = w' := by
  obtain ⟨⟨_, _, _, c3⟩, _⟩ := box4 h.box
  clear h
  generalize K.dead = b at *
  cases b
  all_goals
    go_enter Try.func52, Try.ntmps52
    go_wp2
    go_ret
    exact ⟨rfl, rfl⟩

/-- another struct at its place -/
theorem RLay.turn {W W' : World} {B d : Nat} {K K' : St} {v : Value} {q q' : Int} (h : RLay W B d K v q) (hL : K'.L = K.L) (hok : Ok K') (hq : ∀ n, K'.room = some n → q' = (n : Int)) (hag : Ag (· = d) W W')
    (hbox : W'.heap[d]? = some (.cells #[v, .bool K'.room.isSome, .int .i64 q', .bool K'.dead] 28 (0, 0))) : RLay W' B d K' v q' := by
  refine ⟨hok, h.base, hbox, hq, ?_⟩
  rw [hL]
  refine row_kept h.row fun g hg => hag g ?_ (h.ne hg)
  obtain ⟨_, cs, h2⟩ := row_block h.row hg
  exact heap_lt h2
theorem ok_same {K K' : St} (h : Ok K) (hL : K'.L = K.L) (hr : ∀ n, K'.room = some n → n ≤ 9223372036854775807) : Ok K' :=
  ⟨by rw [hL]; exact h.sorted, by rw [hL]; exact h.names, hr, by rw [hL]; exact h.few, by rw [hL]; exact h.small⟩

set_option maxHeartbeats 4000000 in
set_option maxRecDepth 100000 in
theorem rfits_any (t : Str) (w : World) {B d : Nat} {K : St} {v : Value} {q : Int} (h : RLay w B d K v q) (hd : K.dead = false) (ht : t.length ≤ 140737488351232) :
    Calls Try.prog 50 #[.pointer (some ⟨d, 0, none⟩), .string ⟨t.toArray⟩] w fun e w' => e = .returned (.string ⟨(fits K.room t).toArray⟩) ∧ (∃ q', RLay w' B d (pay K t) v q') ∧ Gone isDsk B w w' := by
  obtain ⟨⟨_, c1, c2, c3⟩, _, z1, z2, z3⟩ := box4 h.box
  cases hr : K.room with
  | none =>
    have e1 : pay K t = K := by
      obtain ⟨L, r, dd⟩ := K
      simp only at hr hd
      subst hr hd
      simp [pay, fits]
    rw [hr] at c1
    rw [e1]
    have H := Lib.hid h
    clear h hr hd e1 c2 c3
    go_enter Try.func50, Try.ntmps50
    go_wp2
    go_ret
    exact ⟨rfl, ⟨q, H.out⟩, Gone.refl _ _ _⟩
  | some n =>
    have hq := h.room n hr
    subst hq
    rw [hr] at c1
    have hnx := h.ok.room n hr
    rcases Nat.lt_or_ge n t.length with hn | hn
    · have e1 : pay K t = { K with dead := true, room := some 0 } := by
        obtain ⟨L, r, dd⟩ := K
        simp only at hr hd
        subst hr hd
        have : n - min n t.length = 0 := by omega
        have h2 : min n t.length < t.length := by omega
        simp [pay, fits, this, h2]
      rw [e1]
      have b1 := heap_setCell_same w d 3 _ _ (.bool true) h.box
      have b2 := heap_setCell_same _ d 2 _ _ (.int .i64 0) b1
      obtain ⟨⟨_, _, k2, _⟩, _⟩ := box4 b1
      have hL : RLay ((w.setCell ⟨d, 3, none⟩ (.bool true)).setCell ⟨d, 2, none⟩ (.int .i64 0)) B d { K with dead := true, room := some 0 } v 0 :=
        h.turn rfl (ok_same h.ok rfl (fun m hm => by simp only [Option.some.injEq] at hm; omega)) (fun m hm => by simp only [Option.some.injEq] at hm; omega) (fun b _ hb => (Below.heap_setCell _ _ _ _ hb).trans (Below.heap_setCell _ _ _ _ hb)) (by rw [hr] at b2; exact b2)
      have HL := Lib.hid hL
      have HG := Lib.hid (((Gone.refl isDsk B w).set (i := 3) h.box (isDsk_r _) h.base (.bool true)).set (i := 2) b1 (isDsk_r _) h.base (.int .i64 0))
      have hgt : (t.length : Int) > (n : Int) := by omega
      have hle : n ≤ t.length := by omega
      have x1 : (ByteArray.mk t.toArray).extract 0 n = ⟨(t.take n).toArray⟩ := cut_to t n
      have hu : (t.take n).length = n := by rw [List.length_take]; omega
      have e2 : fits (some n) t = t.take n := rfl
      rw [e2]
      clear h hr hd e1 hL e2 b1 b2 hn
      generalize t.take n = u at *
      have hu' : ((u.length : Nat) : Int) = (n : Int) := by omega
      have x2 : (ByteArray.mk u.toArray).size = n := by show u.toArray.size = n; rw [List.size_toArray]; exact hu
      clear hu
      go_enter Try.func50, Try.ntmps50
      go_wp2
      go_ret
      exact ⟨rfl, ⟨_, HL.out⟩, HG.out⟩
    · have e1 : pay K t = { K with room := some (n - t.length) } := by
        obtain ⟨L, r, dd⟩ := K
        simp only at hr hd
        subst hr hd
        have : min n t.length = t.length := by omega
        simp [pay, fits, this]
      have e2 : fits (some n) t = t := by simp [fits, List.take_of_length_le hn]
      rw [e1, e2]
      have b2 := heap_setCell_same w d 2 _ _ (.int .i64 ((n - t.length : Nat) : Int)) h.box
      have hL : RLay (w.setCell ⟨d, 2, none⟩ (.int .i64 ((n - t.length : Nat) : Int))) B d { K with room := some (n - t.length) } v ((n - t.length : Nat) : Int) :=
        h.turn rfl (ok_same h.ok rfl (fun m hm => by simp only [Option.some.injEq] at hm; omega)) (fun m hm => by simp only [Option.some.injEq] at hm; omega) (fun b _ hb => Below.heap_setCell _ _ _ _ hb) (by rw [hr] at b2; exact b2)
      have HL := Lib.hid hL
      have HG := Lib.hid ((Gone.refl isDsk B w).set (i := 2) h.box (isDsk_r _) h.base (.int .i64 ((n - t.length : Nat) : Int)))
      have hgt : ¬ (t.length : Int) > (n : Int) := by omega
      have hm : (n : Int) - (t.length : Int) = ((n - t.length : Nat) : Int) := by omega
      have hm0 : 0 ≤ ((n - t.length : Nat) : Int) := by omega
      have hm1 : ((n - t.length : Nat) : Int) ≤ 9223372036854775807 := by omega
      clear h hr hd e1 hL e2 b2 hn
      generalize ((n - t.length : Nat) : Int) = m at *
      go_enter Try.func50, Try.ntmps50
      go_wp2
      go_ret
      exact ⟨rfl, ⟨_, HL.out⟩, HG.out⟩

theorem RLay.cutted {w : World} {B d : Nat} {K : St} {v : Value} {q : Int} (h : RLay w B d K v q) (n : Nat) (hn : n ≤ 9223372036854775807) {w' : World} (hg : Gone isDsk B w w') (hag : Ag (· = d) w w')
    (hbox : w'.heap[d]? = some (.cells #[v, .bool true, .int .i64 (n : Int), .bool K.dead] 28 (0, 0))) : RLay w' B d { K with room := some n } v (n : Int) :=
  h.turn rfl (ok_same h.ok rfl (fun m hm => by simp only [Option.some.injEq] at hm; omega)) (fun m hm => by simp only [Option.some.injEq] at hm; omega) hag hbox

set_option maxHeartbeats 4000000 in
set_option maxRecDepth 100000 in
theorem rcut_any (w : World) {B d : Nat} {K : St} (h : RefAt w B d K) (n : Int) (hn : -9223372036854775808 ≤ n ∧ n ≤ 9223372036854775807) :
    Calls Try.prog 38 #[.pointer (some ⟨d, 0, none⟩), .int .i64 n] w fun e w' => e = .returned (.tuple #[]) ∧ RefAt w' B d (Dk.cut K n) ∧ Gone isDsk B w w' := by
  have h' := h
  obtain ⟨v, q, h⟩ := h
  obtain ⟨⟨_, c1, c2, c3⟩, _, z1, z2, _⟩ := box4 h.box
  unfold Dk.cut
  cases hd : K.dead with
  | true =>
    rw [hd] at c3
    simp only [if_true]
    have HL := Lib.hid h'
    clear h h' hd c1 c2
    go_enter Try.func38, Try.ntmps38
    go_wp2
    (try simp only [Exit.inBlock, Exit.then])
    refine bodyPost_ret (results_none rfl _ _ _) rfl ?_
    exact ⟨rfl, HL.out, Gone.refl _ _ _⟩
  | false =>
    simp only [Bool.false_eq_true, if_false]
    have b1 := heap_setCell_same w d 1 _ _ (.bool true) h.box
    have b2 := heap_setCell_same _ d 2 _ _ (.int .i64 n) b1
    have g1 := (Gone.refl isDsk B w).set (i := 1) h.box (isDsk_r _) h.base (.bool true)
    have g2 := g1.set (i := 2) b1 (isDsk_r _) h.base (.int .i64 n)
    have a2 : Ag (· = d) w ((w.setCell ⟨d, 1, none⟩ (.bool true)).setCell ⟨d, 2, none⟩ (.int .i64 n)) := fun b _ hb => (Below.heap_setCell _ _ _ _ hb).trans (Below.heap_setCell _ _ _ _ hb)
    by_cases hn0 : n < 0
    · have b3 := heap_setCell_same _ d 2 _ _ (.int .i64 0) b2
      have hL := h.cutted 0 (by omega) (g2.set (i := 2) b2 (isDsk_r _) h.base (.int .i64 0)) (fun b hb hb' => (Below.heap_setCell _ _ _ _ hb').trans (a2 b hb hb')) b3
      obtain ⟨_, _, _, _, _⟩ := box4 b1
      obtain ⟨⟨_, _, k2, _⟩, _, _, y2, _⟩ := box4 b2
      rw [show (0 : Nat) = n.toNat by omega] at hL
      have HL : Hid (RefAt _ B d { K with room := some n.toNat }) := Lib.hid ⟨_, _, hL⟩
      have HG := Lib.hid (g2.set (i := 2) b2 (isDsk_r _) h.base (.int .i64 0))
      rw [hd] at c3 HL
      clear h h' hd hL g1 g2 a2 b1 b2 b3
      go_enter Try.func38, Try.ntmps38
      go_wp2
      go_end0
      exact ⟨rfl, HL.out, HG.out⟩
    · obtain ⟨m, rfl⟩ : ∃ m : Nat, n = (m : Int) := ⟨n.toNat, by omega⟩
      have hL := h.cutted m (by omega) g2 a2 b2
      have HL : Hid (RefAt _ B d { K with room := some m }) := Lib.hid ⟨_, _, hL⟩
      have HG := Lib.hid g2
      rw [hd] at c3 HL
      rw [show ((m : Int)).toNat = m by omega]
      clear h h' hd hL g1 g2 a2 b1 b2
      go_enter Try.func38, Try.ntmps38
      go_wp2
      go_end0
      exact ⟨rfl, HL.out, HG.out⟩
end Go.Proofs.Ytklgiocihknebaa
