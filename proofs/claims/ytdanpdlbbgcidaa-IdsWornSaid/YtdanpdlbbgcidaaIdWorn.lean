/- A pool of one index, over its generation. Nothing of the program. -/
import Derived.Test.YtdanpdlbbgcidaaIdPure
namespace Go.Proofs.Ytdanpdlbbgcidaa
set_option linter.unusedVariables false
namespace Ids
/-- one shard, one index: its generation g, its bound b, its row r -/
def Wn (g : Nat) (r : List Nat) (b : Nat) : St := ⟨1, 1, up2 (fun _ _ => 0) 0 0 g, up2 (fun _ _ => 0) 0 0 b, up1 (fun _ => [0]) 0 r⟩
theorem wn_new : new 1 1 = Wn 0 [0] 0 := by
  refine st_ext rfl rfl (fun a b => ?_) (fun a b => ?_) (fun a => ?_)
  · show 0 = up2 (fun _ _ => 0) 0 0 0 a b; unfold up2; split <;> rfl
  · show 0 = up2 (fun _ _ => 0) 0 0 0 a b; unfold up2; split <;> rfl
  · show [0] = up1 (fun _ => [0]) 0 [0] a; unfold up1; split <;> rfl
theorem up2_up2 (f : Nat → Nat → Nat) (k i v u : Nat) : up2 (up2 f k i v) k i u = up2 f k i u := by
  funext a b; unfold up2; split <;> rfl
theorem up1_up1 (f : Nat → List Nat) (k : Nat) (l m : List Nat) : up1 (up1 f k l) k m = up1 f k m := by
  funext a; unfold up1; split <;> rfl
theorem wn_setGen (g : Nat) (r : List Nat) (b v : Nat) : setGen (Wn g r b) 0 0 v = Wn v r b := by unfold setGen Wn; simp only [up2_up2]
theorem wn_setBnd (g : Nat) (r : List Nat) (b v : Nat) : setBnd (Wn g r b) 0 0 v = Wn g r v := by unfold setBnd Wn; simp only [up2_up2]
theorem wn_setRow (g : Nat) (r : List Nat) (b : Nat) (l : List Nat) : setRow (Wn g r b) 0 l = Wn g l b := by unfold setRow Wn; simp only [up1_up1]
theorem wn_gen (g : Nat) (r : List Nat) (b : Nat) : (Wn g r b).gen 0 0 = g := rfl
theorem wn_bnd (g : Nat) (r : List Nat) (b : Nat) : (Wn g r b).bnd 0 0 = b := rfl
theorem wn_row (g : Nat) (r : List Nat) (b : Nat) : (Wn g r b).row 0 = r := rfl
theorem wn_in (g : Nat) (r : List Nat) (b : Nat) : In (Wn g r b) 0 0 := ⟨Int.le_refl _, (show (0 : Int) < ((1 : Nat) : Int) by decide), Int.le_refl _, (show (0 : Int) < ((1 : Nat) : Int) by decide)⟩
theorem wn_reserve {g b : Nat} {r : List Nat} (h : b < MG) : reserve (Wn g r b) 0 0 = (Wn g r (min (b + 8) MG), 0) := by
  unfold reserve
  rw [if_pos (wn_in g r b)]
  show (if b ≥ MG then _ else (setBnd (Wn g r b) 0 0 (min (b + 8) MG), 0)) = _
  rw [if_neg (by omega), wn_setBnd]
theorem wn_full (g : Nat) (r : List Nat) : reserve (Wn g r MG) 0 0 = (Wn g r MG, 5) := by
  unfold reserve
  rw [if_pos (wn_in g r MG)]
  show (if MG ≥ MG then _ else _) = _
  rw [if_pos (Nat.le_refl _)]
theorem wn_give (g : Nat) (r : List Nat) (b v : Nat) : give (Wn g r b) 0 0 v = Wn v (r.filter fun x => x != 0) b := by
  unfold give
  rw [wn_setGen, wn_row, wn_setRow]
theorem wn_take {g b x : Nat} (h1 : g ≤ x) (h2 : x < b) : take (Wn g [0] b) 0 0 (x : Int) = (Wn x [] b, 0) := by
  unfold take
  rw [if_neg (by rintro (h | h); exact h (wn_in _ _ _); omega)]
  show (if ([0] : List Nat).contains 0 = false then _ else if (x : Int) < (g : Int) ∨ (b : Int) ≤ (x : Int) then _ else (give (Wn g [0] b) 0 0 (x : Int).toNat, 0)) = _
  rw [if_neg (by decide), if_neg (by omega), wn_give]
  rfl
theorem wn_stale {g b x : Nat} (h : b ≤ x) : take (Wn g [0] b) 0 0 (x : Int) = (Wn g [0] b, 9) := by
  unfold take
  rw [if_neg (by rintro (h | h); exact h (wn_in _ _ _); omega)]
  show (if ([0] : List Nat).contains 0 = false then _ else if (x : Int) < (g : Int) ∨ (b : Int) ≤ (x : Int) then (Wn g [0] b, 9) else _) = _
  rw [if_neg (by decide), if_pos (by omega)]
theorem wn_state (g b x : Nat) : take (Wn g [] b) 0 0 (x : Int) = (Wn g [] b, 14) := by
  unfold take
  rw [if_neg (by rintro (h | h); exact h (wn_in _ _ _); omega)]
  show (if ([] : List Nat).contains 0 = false then (Wn g [] b, 14) else _) = _
  rw [if_pos (by decide)]
/-- behind Free of the name (0, 0, g) -/
def Fr (g : Nat) : St := if g + 1 < MG then Wn (g + 1) [0] MG else Wn MG [] MG
theorem wn_free {g : Nat} (h : g < MG) : free (Wn g [] MG) 0 0 (g : Int) = (Fr g, 0) := by
  have ha : alive (Wn g [] MG) 0 0 (g : Int) = true := by
    unfold alive
    rw [if_pos (wn_in _ _ _)]
    show (decide ((g : Int) = (g : Int)) && (!([] : List Nat).contains 0 && decide (g < MG))) = true
    rw [decide_eq_true rfl, decide_eq_true h]; rfl
  unfold free
  rw [if_neg (by rintro (h | h); exact h (wn_in _ _ _); omega), ha, if_neg (by decide)]
  show (freed (Wn g [] MG) 0 0, 0) = _
  unfold freed Fr
  rw [wn_gen]
  split
  · rw [wn_setGen, wn_row, wn_setRow]; rfl
  · rw [wn_setGen, show g + 1 = MG by omega]
theorem wn_issue {g : Nat} (h : g + 1 < MG) : issue (Fr g) 0 = (Wn (g + 1) [] MG, (0, 0, g + 1), 0) := by
  unfold Fr
  rw [if_pos h]
  have hh : head (Wn (g + 1) [0] MG) 0 = (0, true, 0) := by
    unfold head
    rw [if_pos ⟨Int.le_refl _, (show (0 : Int) < ((1 : Nat) : Int) by decide)⟩]
    show (0, decide (g + 1 < MG), 0) = _
    rw [decide_eq_true h]
  unfold issue
  rw [hh]
  show (give (Wn (g + 1) [0] MG) 0 0 (g + 1), (0, 0, g + 1), 0) = _
  rw [wn_give]; rfl
theorem wn_head (g b : Nat) : head (Wn g [] b) 0 = (0, false, 8) := by
  unfold head
  rw [if_pos ⟨Int.le_refl _, (show (0 : Int) < ((1 : Nat) : Int) by decide)⟩]; rfl
theorem wn_none (g b : Nat) : issue (Wn g [] b) 0 = (Wn g [] b, (0, 0, 0), 8) := by
  unfold issue
  rw [wn_head]; rfl
theorem wn_list (b : Nat) : list (Wn MG [] b) = [] := by
  unfold list lst
  show (((List.range (1 * 1)).filter fun p => taken (Wn MG [] b) (p / 1) (p % 1)).map _) = []
  have : taken (Wn MG [] b) 0 0 = false := by
    unfold taken
    rw [wn_gen]
    show (_ && decide (MG < MG)) = false
    rw [decide_eq_false (Nat.lt_irrefl _), Bool.and_false]
  simp [List.range_succ, this]
theorem wn_lapse0 (g b : Nat) : lapse (Wn g [] b) = (Wn g [] b, 0) := by
  refine Prod.ext (st_ext rfl rfl (fun k i => ?_) (fun _ _ => rfl) (fun k => ?_)) ?_
  · show (if k < 1 then lapG (Wn g [] b) k i else (Wn g [] b).gen k i) = (Wn g [] b).gen k i
    split
    · rename_i h
      obtain rfl : k = 0 := by omega
      exact lapG_out (by rw [wn_row]; simp)
    · rfl
  · show (if k < 1 then _ else (Wn g [] b).row k : List Nat) = (Wn g [] b).row k
    split
    · rename_i h
      obtain rfl : k = 0 := by omega
      rw [wn_row]; rfl
    · rfl
  · show cnt (Wn g [] b) (1 * 1) = 0
    unfold cnt flag
    simp [List.range_succ, wn_row]
theorem wn_lapse1 {g : Nat} (h : g < MG) : lapse (Wn g [0] MG) = (Wn MG [] MG, 1) := by
  have e : lapG (Wn g [0] MG) 0 0 = MG := if_pos ⟨by rw [wn_row]; simp, by rw [wn_gen, wn_bnd]; exact h⟩
  refine Prod.ext (st_ext rfl rfl (fun k i => ?_) (fun _ _ => rfl) (fun k => ?_)) ?_
  · show (if k < 1 then lapG (Wn g [0] MG) k i else (Wn g [0] MG).gen k i) = (Wn MG [] MG).gen k i
    split
    · rename_i hk
      obtain rfl : k = 0 := by omega
      by_cases hi : i = 0
      · subst hi; exact e
      · rw [lapG_out (by rw [wn_row]; simpa using hi)]
        show up2 (fun _ _ => 0) 0 0 g 0 i = up2 (fun _ _ => 0) 0 0 MG 0 i
        rw [up2_other (fun e => hi e.2), up2_other (fun e => hi e.2)]
    · rename_i hk
      show up2 (fun _ _ => 0) 0 0 g k i = up2 (fun _ _ => 0) 0 0 MG k i
      rw [up2_other (fun e => hk (by omega)), up2_other (fun e => hk (by omega))]
  · show (if k < 1 then ((Wn g [0] MG).row k).filter (fun i => decide (lapG (Wn g [0] MG) k i < MG)) else (Wn g [0] MG).row k : List Nat) = (Wn MG [] MG).row k
    split
    · rename_i hk
      obtain rfl : k = 0 := by omega
      rw [wn_row, wn_row, List.filter_cons, e, decide_eq_false (Nat.lt_irrefl _)]; rfl
    · rename_i hk
      show up1 (fun _ => [0]) 0 [0] k = up1 (fun _ => [0]) 0 [] k
      rw [up1_other (by omega), up1_other (by omega)]
  · show cnt (Wn g [0] MG) (1 * 1) = 1
    have : flag (Wn g [0] MG) 0 0 = true := by
      unfold flag
      rw [wn_row, wn_gen, wn_bnd, decide_eq_true h]; rfl
    unfold cnt
    simp [List.range_succ, this]
end Ids
end Go.Proofs.Ytdanpdlbbgcidaa
