/- The document's disk in memory: a struct behind a pointer, a row of files that rises by their names. at, open, down, Cut. -/
import Derived.Test.YtklgiocihknebaaDkCopy
import Derived.Laws.OwnMore
import Derived.Laws.Concat
namespace Go.Proofs.Ytklgiocihknebaa
open Go.RowKit Go.Maps Dk
set_option linter.unusedVariables false

/-- the cells of a row of files -/
def fcells (f : Fl) : List Value := [.string ⟨f.name.toArray⟩, .string ⟨f.sure.toArray⟩, .string ⟨f.loose.toArray⟩]
def rcells (L : List Fl) : List Value := L.flatMap fcells
theorem rcells_len (L : List Fl) : (rcells L).length = L.length * 3 := by
  induction L with
  | nil => rfl
  | cons a L ih => unfold rcells at *; rw [List.flatMap_cons, List.length_append, ih, List.length_cons]; simp [fcells]; omega
theorem rcells_append (L M : List Fl) : rcells (L ++ M) = rcells L ++ rcells M := by unfold rcells; rw [List.flatMap_append]
theorem rcells_one (f : Fl) : rcells [f] = fcells f := by simp [rcells]
theorem rcells_split (L : List Fl) (i : Nat) (hi : i < L.length) : rcells L = rcells (L.take i) ++ (fcells L[i] ++ rcells (L.drop (i + 1))) := by
  conv => lhs; rw [← List.take_append_drop i L, List.drop_eq_getElem_cons hi]
  rw [rcells_append]
  unfold rcells
  rw [List.flatMap_cons]
theorem rcells_at (L : List Fl) (i : Nat) (hi : i < L.length) (j : Nat) (hj : j < 3) : (rcells L)[i * 3 + j]? = (fcells L[i])[j]? := by
  have hl : (rcells (L.take i)).length = i * 3 := by rw [rcells_len, List.length_take]; congr 1; omega
  rw [rcells_split L i hi, List.getElem?_append_right (by rw [hl]; omega), hl, show i * 3 + j - i * 3 = j by omega, List.getElem?_append_left (by simp [fcells]; exact hj)]
theorem rcells_set (L : List Fl) (i : Nat) (hi : i < L.length) (f : Fl) : rcells (L.set i f) = (((rcells L).set (i * 3) (.string ⟨f.name.toArray⟩)).set (i * 3 + 1) (.string ⟨f.sure.toArray⟩)).set (i * 3 + 2) (.string ⟨f.loose.toArray⟩) := by
  have hl : (rcells (L.take i)).length = i * 3 := by rw [rcells_len, List.length_take]; congr 1; omega
  have h2 := rcells_split (L.set i f) i (by rw [List.length_set]; exact hi)
  rw [List.getElem_set_self, List.take_set_of_le (Nat.le_refl _), List.drop_set_of_lt (by omega)] at h2
  rw [h2, rcells_split L i hi]
  rw [List.set_append_right _ _ (by rw [hl]; omega), List.set_append_right _ _ (by rw [hl]; omega), List.set_append_right _ _ (by rw [hl]; omega), hl, show i * 3 - i * 3 = 0 by omega, show i * 3 + 1 - i * 3 = 1 by omega, show i * 3 + 2 - i * 3 = 2 by omega]
  rfl
theorem rcells_take (L : List Fl) (i : Nat) : rcells (L.take i) = (rcells L).take (i * 3) := by
  by_cases hi : i ≤ L.length
  · have hl : (rcells (L.take i)).length = i * 3 := by rw [rcells_len, List.length_take]; congr 1; omega
    conv => rhs; rw [← List.take_append_drop i L, rcells_append]
    rw [← hl, List.take_left]
  · rw [List.take_of_length_le (by omega), List.take_of_length_le (by rw [rcells_len]; omega)]
theorem rcells_drop (L : List Fl) (i : Nat) (hi : i ≤ L.length) : rcells (L.drop i) = (rcells L).drop (i * 3) := by
  have hl : (rcells (L.take i)).length = i * 3 := by rw [rcells_len, List.length_take]; congr 1; omega
  conv => rhs; rw [← List.take_append_drop i L, rcells_append]
  rw [← hl, List.drop_left]

structure RLay (W : World) (B d : Nat) (K : St) (v : Value) (q : Int) : Prop where
  ok : Ok K
  base : B ≤ d
  box : W.heap[d]? = some (.cells #[v, .bool K.room.isSome, .int .i64 q, .bool K.dead] 28 (0, 0))
  room : ∀ n, K.room = some n → q = (n : Int)
  row : W.ownsRow B 70 3 v K.L.length (rcells K.L)
def RefAt (W : World) (B d : Nat) (K : St) : Prop := ∃ v q, RLay W B d K v q
section
variable {W W' : World} {B d : Nat} {K : St} {v : Value} {q : Int}
theorem RLay.lt (h : RLay W B d K v q) : d < W.heap.size := heap_lt h.box
theorem RLay.ne (h : RLay W B d K v q) {g : Nat} (hg : v.ownBlock = some g) : g ≠ d := by
  obtain ⟨_, cs, h2⟩ := row_block h.row hg
  exact ne_heap h2 h.box (by intro e; injection e with _ e2; cases e2)
theorem RLay.kp (h : RLay W B d K v q) (hk : Kp isRef W W') : RLay W' B d K v q :=
  ⟨h.ok, h.base, hk _ _ h.box rfl, h.room, row_kept h.row fun g hg => by
    obtain ⟨_, cs, h2⟩ := row_block h.row hg
    rw [h2]
    exact hk g _ h2 rfl⟩
theorem RLay.below (h : RLay W B d K v q) (hb : Below W.heap.size W W') : RLay W' B d K v q := h.kp (Kp.below hb)
theorem RefAt.kp (h : RefAt W B d K) (hk : Kp isRef W W') : RefAt W' B d K := let ⟨v, q, h⟩ := h; ⟨v, q, h.kp hk⟩
theorem RefAt.below (h : RefAt W B d K) (hk : Below W.heap.size W W') : RefAt W' B d K := h.kp (Kp.below hk)
theorem RefAt.ok (h : RefAt W B d K) : Ok K := let ⟨_, _, h⟩ := h; h.ok
theorem isDsk_r (cs : Array Value) : isDsk (.cells cs 28 (0, 0)) = false := rfl
theorem isDsk_f (cs : Array Value) : isDsk (.cells cs 70 (0, 0)) = false := rfl
/-- the row, where there are files -/
theorem RLay.form (h : RLay W B d K v q) : ∃ A c, v = .slice A K.L.length c := row_form' h.row
where
  row_form' {w : World} {B n : Nat} {e : TypeId} {v : Value} {xs : List Value} (h : w.ownsRow B e 3 v n xs) : ∃ A c, v = .slice A n c := by
    rcases h.2 with ⟨rfl, rfl⟩ | ⟨g, cap, cur, rfl, _⟩
    · exact ⟨none, 0, rfl⟩
    · exact ⟨_, _, rfl⟩
theorem RLay.at_ (h : RLay W B d K v q) {i : Nat} (hi : i < K.L.length) : ∃ g c, v = .slice (some ⟨g, 0, none⟩) K.L.length c ∧ B ≤ g ∧ g ≠ d ∧ g < W.heap.size ∧
    (W.cell? ⟨g, i * 3, none⟩ = some (.string ⟨K.L[i].name.toArray⟩) ∧ W.cell? ⟨g, i * 3 + 1, none⟩ = some (.string ⟨K.L[i].sure.toArray⟩) ∧ W.cell? ⟨g, i * 3 + 2, none⟩ = some (.string ⟨K.L[i].loose.toArray⟩)) ∧
    (W.frozen? ⟨g, i * 3, none⟩ = false ∧ W.frozen? ⟨g, i * 3 + 1, none⟩ = false ∧ W.frozen? ⟨g, i * 3 + 2, none⟩ = false) := by
  have hr := h.row
  rcases hr.2 with ⟨_, h0⟩ | ⟨g, c, cur, rfl, hg, hh, _⟩
  · omega
  · refine ⟨g, c, rfl, hg, h.ne rfl, heap_lt hh, ⟨?_, ?_, ?_⟩, hr.frozenAt _, hr.frozenAt _, hr.frozenAt _⟩
    · rw [hr.cellAt _ (by omega), show i * 3 = i * 3 + 0 by omega, rcells_at _ _ hi 0 (by omega)]; rfl
    · rw [hr.cellAt _ (by omega), rcells_at _ _ hi 1 (by omega)]; rfl
    · rw [hr.cellAt _ (by omega), rcells_at _ _ hi 2 (by omega)]; rfl
end

/-- a file's place -/
def pos (L : List Fl) (s : Str) : Nat := L.findIdx fun f => f.name == s
theorem pos_at {L : List Fl} {s : Str} (h : Dk.has L s = true) : ∃ hp : pos L s < L.length, L[pos L s].name = s := by
  have hlt : pos L s < L.length := List.findIdx_lt_length.2 (by
    obtain ⟨f, hf, hn⟩ := has_iff.1 h
    exact ⟨f, hf, by simpa using hn⟩)
  exact ⟨hlt, by have := List.findIdx_getElem (w := hlt); exact eq_of_beq this⟩
theorem pos_is {L : List Fl} {s : Str} {k : Nat} (hk : k < L.length) (hb : ∀ j (h : j < L.length), j < k → L[j].name ≠ s) (he : L[k].name = s) : pos L s = k := by
  refine (List.findIdx_eq hk).2 ⟨by simpa using he, fun j hj => ?_⟩
  simpa using hb j (by omega) hj
theorem has_none {L : List Fl} {s : Str} (h : ∀ j (h : j < L.length), L[j].name ≠ s) : Dk.has L s = false := has_false.2 fun f hf => by
  obtain ⟨i, hi, rfl⟩ := List.mem_iff_getElem.1 hf
  exact h i hi

set_option maxHeartbeats 4000000 in
set_option maxRecDepth 100000 in
theorem rat_bad (s : Str) (w : World) (d : Nat) (hs : s.length ≤ 140737488351232) (hb : bad s = true) :
    Calls Try.prog 40 #[.pointer (some ⟨d, 0, none⟩), .string ⟨s.toArray⟩] w fun e w' => e = .returned (.tuple #[.int .i64 0, .int .i64 1]) ∧ w = w' := by
  by_cases h0 : s.length < 1
  · have h1 : (s.length : Int) < 1 := by omega
    clear hb
    go_enter Try.func40, Try.ntmps40
    go_wp2
    go_ret2
    exact ⟨rfl, rfl⟩
  · have h1 : ¬ (s.length : Int) < 1 := by omega
    have h2 : (s.length : Int) > 32 := by
      simp only [bad, Bool.or_eq_true, decide_eq_true_eq] at hb
      omega
    clear hb
    go_enter Try.func40, Try.ntmps40
    go_wp2
    go_ret2
    exact ⟨rfl, rfl⟩

set_option maxHeartbeats 4000000 in
set_option maxRecDepth 100000 in
theorem rat_any (s : Str) (w : World) {B d : Nat} {K : St} {v : Value} {q : Int} (h : RLay w B d K v q) (hs : s.length ≤ 140737488351232) :
    Calls Try.prog 40 #[.pointer (some ⟨d, 0, none⟩), .string ⟨s.toArray⟩] w fun e w' => e = .returned (.tuple #[.int .i64 ((if err0 K s = 0 then pos K.L s else 0 : Nat) : Int), .int .i64 (err0 K s : Nat)]) ∧ w = w' := by
  by_cases hb : bad s = true
  · have e : err0 K s = 1 := by simp [err0, hb]
    rw [e]
    exact rat_bad s w d hs hb
  · have hb' : bad s = false := by simpa using hb
    obtain ⟨b1, b2⟩ := bad_iff.1 hb'
    have h1 : ¬ (s.length : Int) < 1 := by omega
    have h2 : ¬ (s.length : Int) > 32 := by omega
    have hlen : K.L.length ≤ 64 := h.ok.few
    obtain ⟨A, c, hform⟩ := h.form
    obtain ⟨⟨c0, _, _, _⟩, _⟩ := box4 h.box
    rw [hform] at c0
    have HH := Lib.hid h
    have he : Hid (err0 K s = if Dk.has K.L s then 0 else 6) := Lib.hid (by simp [err0, hb'])
    generalize hr1 : ((if err0 K s = 0 then pos K.L s else 0 : Nat) : Int) = r1
    generalize hr2 : ((err0 K s : Nat) : Int) = r2
    have HR := Lib.hid (And.intro hr1 hr2)
    clear h hs b1 b2 hb hb' hform hr1 hr2
    go_enter Try.func40, Try.ntmps40
    go_wp2
    go_loop [6] (fun i => ∃ k : Nat, k ≤ K.L.length ∧ i = .int .i64 k ∧ Hid (∀ j (h : j < K.L.length), j < k → K.L[j].name ≠ s)) (fun i => K.L.length - (intOf i).toNat)
    case atStart => exact ⟨0, Nat.zero_le _, rfl, Lib.hid fun j _ hj => by omega⟩
    case round =>
      obtain ⟨k, hk, rfl, hno⟩ := hrel
      by_cases hlt : k < K.L.length
      · obtain ⟨g, c', hv, _, _, _, ⟨n0, _, _⟩, _⟩ := HH.out.at_ hlt
        obtain ⟨A', c'', hform⟩ := HH.out.form
        rw [hv] at hform
        cases hform
        obtain ⟨⟨c0', _, _, _⟩, _⟩ := box4 HH.out.box
        rw [hv] at c0'
        by_cases hn : K.L[k].name = s
        · have hp := pos_is hlt hno.out hn
          have hhas : Dk.has K.L s = true := has_iff.2 ⟨K.L[k], List.getElem_mem _, hn⟩
          have hq : (K.L[k].name == s) = true := by simpa using hn
          have HE : Hid ((.tuple #[.int .i64 (k : Int), .int .i64 0] : Value) = .tuple #[.int .i64 r1, .int .i64 r2]) := Lib.hid (by rw [← HR.out.1, ← HR.out.2, he.out, hhas, hp]; rfl)
          clear hp hhas hn c0 HH hno he
          generalize K.L[k].name = nm at *
          go_wp2
          go_ret2
          exact ⟨congrArg Ending.returned HE.out, rfl⟩
        · have hq : (K.L[k].name == s) = false := by simpa using hn
          have HN : Hid (∀ j (h : j < K.L.length), j < k + 1 → K.L[j].name ≠ s) := Lib.hid fun j hj hj' => by
            rcases Nat.lt_or_ge j k with h' | h'
            · exact hno.out j hj h'
            · obtain rfl : j = k := by omega
              exact hn
          clear hn c0 hno
          generalize K.L[k].name = nm at *
          go_wp2
          go_round
          case rel => exact ⟨k + 1, by omega, by go_num, HN⟩
          case measure => simp [intOf]; omega
      · have hhas : Dk.has K.L s = false := has_none fun j hj => hno.out j hj (by omega)
        have HE : Hid ((.tuple #[.int .i64 0, .int .i64 6] : Value) = .tuple #[.int .i64 r1, .int .i64 r2]) := Lib.hid (by rw [← HR.out.1, ← HR.out.2, he.out, hhas]; rfl)
        clear hhas hno he HH
        go_wp2
        go_ret2
        exact ⟨congrArg Ending.returned HE.out, rfl⟩
end Go.Proofs.Ytklgiocihknebaa
