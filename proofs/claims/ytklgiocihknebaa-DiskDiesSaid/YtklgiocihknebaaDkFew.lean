/- few: a row of deeds of one's own, none too long. -/
import Derived.Test.YtklgiocihknebaaDkLaw1
import Derived.Test.YtklgiocihknebaaDkRef4
import Derived.Test.YtklgiocihknebaaOpenDeed
namespace Go.Proofs.Ytklgiocihknebaa
open Go.RowKit Go.Maps Dk
set_option linter.unusedVariables false

theorem deed_info : (Try.prog.info? 32).map (fun i => (i.zero, i.size, i.bytes)) = some (some (.agg #[.int .i64 0, .int .i64 0, .string ⟨#[]⟩, .string ⟨#[]⟩, .string ⟨#[]⟩]), 5, 64) := by kernel_rfl
theorem deeds_und : Try.prog.underlying 22 = some (.slice 32) := by kernel_rfl
def dcells (D : List DD) : List Value := D.flatMap DD.row
theorem dcells_len (D : List DD) : (dcells D).length = D.length * 5 := by
  induction D with
  | nil => rfl
  | cons a D ih => unfold dcells at *; rw [List.flatMap_cons, List.length_append, ih, List.length_cons]; simp [DD.row]; omega
theorem dcells_snoc (D : List DD) (x : DD) : dcells (D ++ [x]) = dcells D ++ x.row := by unfold dcells; rw [List.flatMap_append]; simp
/-- a row of deeds that the call made -/
abbrev OwnD (W : World) (B : Nat) (v : Value) (D : List DD) : Prop := W.ownsRow B 32 5 v D.length (dcells D)
theorem ownd_nil (W : World) (B : Nat) : OwnD W B (.slice none 0 0) [] := World.ownsRow_nil _ _ _ _
theorem ownd_below {W W' : World} {B : Nat} {v : Value} {D : List DD} (h : OwnD W B v D) (hb : Below W.heap.size W W') : OwnD W' B v D :=
  row_kept h fun b hv => by
    obtain ⟨_, cs, h2⟩ := row_block h hv
    exact hb.block b (heap_lt h2)
/-- the deeds of either side leave it alone -/
theorem ownd_kp {W W' : World} {B : Nat} {v : Value} {D : List DD} (h : OwnD W B v D) {p : Obj → Bool} (hp : ∀ cs, p (.cells cs 32 (0, 0)) = true) (hk : Kp p W W') : OwnD W' B v D :=
  row_kept h fun b hv => by
    obtain ⟨_, cs, h2⟩ := row_block h hv
    rw [h2]
    exact hk b _ h2 (hp cs)
theorem ownd_form {W : World} {B n : Nat} {v : Value} {xs : List Value} (h : W.ownsRow B 32 5 v n xs) : ∃ A c, v = .slice A n c := by
  rcases h.2 with ⟨e, e'⟩ | ⟨g, cap, cur, e, _⟩
  · exact ⟨none, 0, by rw [e, e']⟩
  · exact ⟨_, _, e⟩
theorem row_one (x : DD) : ∀ u ∈ x.row, u.oneCell' = true := by
  intro u hu
  simp only [DD.row, List.mem_cons, List.not_mem_nil, or_false] at hu
  rcases hu with rfl | rfl | rfl | rfl | rfl <;> rfl
theorem row_new (W : World) (x : DD) (T : TypeId) : ∀ j u, x.row[j]? = some u → (W.alloc (.cells x.row.toArray T)).cell? ((⟨W.heap.size, 0, none⟩ : Addr).add j) = some u := by
  intro j u hj
  rw [show (⟨W.heap.size, 0, none⟩ : Addr).add j = ⟨W.heap.size, j, none⟩ by unfold Addr.add; split <;> simp_all, cellAt (heap_alloc_new W _)]
  simpa using hj
/-- one deed more, behind a new box of it -/
theorem push_deed (W : World) {B : Nat} {v : Value} {D : List DD} (h : OwnD W B v D) (hB : B ≤ W.heap.size) (hl : D.length ≤ 100) (x : DD) (ty : TypeId) :
    ∃ v' w', (Builtin.append_ #[22, 22] ty #[v, .slice (some ⟨W.heap.size, 0, none⟩) 1 1]).run Try.prog (W.alloc (.cells #[.int .i64 x.kind, .int .i64 x.n, .string ⟨x.name.toArray⟩, .string ⟨x.to.toArray⟩, .string ⟨x.s.toArray⟩] 32)) = .ok v' w' ∧
      OwnD w' B v' (D ++ [x]) ∧ Below B W w' := by
  obtain ⟨i, hi, hz, h2, h3⟩ := info_parts deed_info
  obtain ⟨v', w', hr, ho, hg, _, hloc⟩ := run_append_own_at (P := Try.prog) (W.alloc (.cells x.row.toArray 32)) B 22 ty 32 i _ 5 64 deeds_und hi hz h2 h3 rfl (by decide) v D.length (dcells D) (ownd_below h (bel1 W _)) ⟨W.heap.size, 0, none⟩ 1 1 x.row rfl (row_new W x _) (row_one x) (by unfold maxLen; omega) (by omega) (by rw [size1]; omega)
  refine ⟨v', w', hr, ?_, ((Below.refl B W).alloc hB _).grown hg (by rw [size1]; omega) (fun k hk => (World.ownsRow.lt h k hk).1)⟩
  show w'.ownsRow B _ 5 v' (D ++ [x]).length (dcells (D ++ [x]))
  rw [dcells_snoc, List.length_append]
  exact ho

/-- what is done: at most sixty deeds, none too long -/
def Few (D : List DD) : Prop := D.length ≤ 60 ∧ ∀ x ∈ D, x.Fine ∧ x.s.length ≤ 5000
set_option maxHeartbeats 8000000 in
set_option maxRecDepth 100000 in
theorem few_any (w : World) (A : Option Addr) (cap : Nat) (l : List DD) (hl : l.length ≤ cap) (hc : cap ≤ 140737488351232) (hf : ∀ x ∈ l, x.Fine) {B : Nat} (hB : B ≤ w.heap.size) (R : ReadsK w B A 5 (l.map DD.row)) :
    Calls Try.prog 13 #[.slice A l.length cap] w fun e w' => (∃ v, e = .returned v ∧ ∃ D, Few D ∧ OwnD w' w.heap.size v D) ∧ Below w.heap.size w w' := by
  have HR := Lib.hid R
  have HF := Lib.hid hf
  clear R hf
  go_enter Try.func13, Try.ntmps13
  go_wp2
  go_loopw [3, 4] (fun u i wr => ∃ (k : Nat) (D : List DD), k ≤ l.length ∧ i = .int .i64 k ∧ D.length ≤ 60 ∧ Hid (Few D) ∧ Hid (OwnD wr w.heap.size u D) ∧ Hid (Below w.heap.size w wr)) (fun _ i _ => l.length - (intOf i).toNat)
  case atStart => exact ⟨0, [], Nat.zero_le _, rfl, by simp, Lib.hid ⟨by simp, fun x hx => by cases hx⟩, Lib.hid (ownd_nil _ _), Lib.hid (Below.refl _ _)⟩
  case round =>
    obtain ⟨k, D, hk, rfl, hD, hF, hO, hb⟩ := hrel
    obtain ⟨A', c', rfl⟩ := ownd_form hO.out
    by_cases hlt : k < l.length
    · have hlt' : (k : Int) < (l.length : Int) := by omega
      by_cases h60 : D.length < 60
      · have h60' : (D.length : Int) < 60 := by omega
        have hR := HR.out.below (hb.out.mono hB)
        obtain ⟨b, off, rfl, hbB, hcs⟩ := hR.at_ (i := k) (by rw [List.length_map]; exact hlt)
        rw [List.getElem_map] at hcs
        have hx := HF.out _ (List.getElem_mem hlt)
        have hE : l.length ≤ 140737488351232 := by omega
        generalize l[k] = x at *
        have c0 : wr.cell? ⟨b, off + k * 5, none⟩ = some (.int .i64 x.kind) := hcs 0 _ rfl
        have c1 : wr.cell? ⟨b, off + k * 5 + 1, none⟩ = some (.int .i64 x.n) := by rw [Nat.add_assoc]; exact hcs 1 _ rfl
        have c2 : wr.cell? ⟨b, off + k * 5 + 2, none⟩ = some (.string ⟨x.name.toArray⟩) := by rw [Nat.add_assoc]; exact hcs 2 _ rfl
        have c3 : wr.cell? ⟨b, off + k * 5 + 3, none⟩ = some (.string ⟨x.to.toArray⟩) := by rw [Nat.add_assoc]; exact hcs 3 _ rfl
        have c4 : wr.cell? ⟨b, off + k * 5 + 4, none⟩ = some (.string ⟨x.s.toArray⟩) := by rw [Nat.add_assoc]; exact hcs 4 _ rfl
        clear hcs hR
        by_cases hs : x.s.length ≤ 5000
        · have hs' : (x.s.length : Int) ≤ 5000 := by omega
          have HP : Hid (∃ v' w', (Builtin.append_ #[22, 22] 22 #[.slice A' D.length c', .slice (some ⟨wr.heap.size, 0, none⟩) 1 1]).run Try.prog (wr.alloc (.cells #[.int .i64 x.kind, .int .i64 x.n, .string ⟨x.name.toArray⟩, .string ⟨x.to.toArray⟩, .string ⟨x.s.toArray⟩] 32)) = .ok v' w' ∧
              Hid ((D ++ [x]).length ≤ 60 ∧ Hid (Few (D ++ [x])) ∧ Hid (OwnD w' w.heap.size v' (D ++ [x])) ∧ Hid (Below w.heap.size w w'))) := Lib.hid (by
            obtain ⟨v', w', r, ho, hbl⟩ := push_deed wr hO.out hb.out.size (by omega) x 22
            have hl60 : (D ++ [x]).length ≤ 60 := by rw [List.length_append]; simp; omega
            exact ⟨v', w', r, Lib.hid ⟨hl60, Lib.hid ⟨hl60, fun y hy => by
              rcases List.mem_append.1 hy with h | h
              · exact hF.out.2 y h
              · obtain rfl : y = x := by simpa using h
                exact ⟨hx, hs⟩⟩, Lib.hid ho, Lib.hid (hb.out.trans hbl)⟩⟩)
          clear hs hF hO hb hx
          go_wp2_with (at_builtin; obtain ⟨v', w', r, HE⟩ := HP.out; refine wpList_append _ rfl (.tmp 23) (.tmp 28) _ _ rfl _ (.slice (some ⟨_, 0, none⟩) 1 1) rfl rfl _ _ r ?_; clear r)
          go_roundw
          case rel => exact ⟨k + 1, D ++ [x], by omega, by go_num, HE.out⟩
          case measure => simp [intOf]; omega
        · have hs' : ¬ (x.s.length : Int) ≤ 5000 := by omega
          have hsb := hx.s
          clear hs hx
          go_wp2
          go_roundw
          case rel => exact ⟨k + 1, D, by omega, by go_num, hD, hF, hO, hb⟩
          case measure => simp [intOf]; omega
      · have h60' : ¬ (D.length : Int) < 60 := by omega
        go_wp2
        go_ret
        exact ⟨⟨_, rfl, D, hF.out, hO.out⟩, hb.out⟩
    · have hlt' : ¬ (k : Int) < (l.length : Int) := by omega
      go_wp2
      go_ret
      exact ⟨⟨_, rfl, D, hF.out, hO.out⟩, hb.out⟩
end Go.Proofs.Ytklgiocihknebaa
