/- zones: Beside, Near: what they answer. -/
import Derived.Test.YtloogafnkkbigaaZnCore2
import Derived.Test.YtloogafnkkbigaaOpen
import Derived.LoopTactic
import Derived.OwnWalk
import Derived.WalkKit
namespace Go.Proofs.Ytloogafnkkbigaa
open Go.RowKit
open Zn (Ok There)

theorem int_info : (Try.prog.info? 3).map (fun i => (i.zero, i.size, i.bytes)) = some (some (.int .i64 0), 1, 8) := by kernel_rfl
theorem ints_und : Try.prog.underlying 46 = some (.slice 3) := by kernel_rfl
/-- a row of ints that the call itself made -/
abbrev Own (W : World) (B : Nat) (v : Value) (l : List Int) : Prop := W.ownsRow B 3 1 v l.length (l.map (Value.int .i64))
theorem own_nil (W : World) (B : Nat) : Own W B (.slice none 0 0) [] := World.ownsRow_nil _ _ _ _
theorem below_grown {W W' : World} (hb : Below W.heap.size W W') : W.grownBy W' none := ⟨hb.os, hb.tape, hb.output, hb.size, fun k hk _ => hb.block k hk⟩
theorem own_below {W W' : World} {B : Nat} {v : Value} {l : List Int} (h : Own W B v l) (hb : Below W.heap.size W W') : Own W' B v l :=
  World.ownsRow.kept h (below_grown hb) (by cases v.ownBlock <;> simp)
theorem own_base {W : World} {B B' : Nat} {v : Value} {l : List Int} (h : Own W B v l) (hb : B' ≤ B) : Own W B' v l := by
  refine ⟨h.1, ?_⟩
  rcases h.2 with hn | ⟨g, cap, cur, e, hg, rest⟩
  · exact .inl hn
  · exact .inr ⟨g, cap, cur, e, by omega, rest⟩
theorem push_step {B : Nat} {w wr w1 : World} {v v' : Value} {l : List Int} {x : Int} {o : Obj} (hown : Own wr B v l) (hnx : Below B w wr) (hB : B ≤ wr.heap.size)
    (hown' : w1.ownsRow B 3 1 v' (l.length + 1) (l.map (Value.int .i64) ++ [.int .i64 x])) (hgrow : (wr.alloc o).grownBy w1 v.ownBlock) : Own w1 B v' (l ++ [x]) ∧ Below B w w1 :=
  ⟨by show w1.ownsRow B 3 1 v' (l ++ [x]).length ((l ++ [x]).map (Value.int .i64)); simpa using hown', (hnx.alloc hB o).grown hgrow (by simp; omega) (fun j hj => (World.ownsRow.lt hown j hj).1)⟩
theorem own_len {W : World} {B : Nat} {v : Value} {l : List Int} (h : Own W B v l) : ∃ A cap, v = .slice A l.length cap := by
  rcases h.2 with ⟨hv, hn⟩ | ⟨g, cap, cur, hv, _⟩
  · exact ⟨none, 0, by rw [hv, hn]⟩
  · exact ⟨_, cap, hv⟩
/-- the row's slice and its cells -/
theorem own_at {W : World} {B : Nat} {v : Value} {l : List Int} (h : Own W B v l) : ∃ A cap, v = .slice A l.length cap ∧ Reads W W.heap.size A (ints l) := by
  rcases h.2 with ⟨hv, hn⟩ | ⟨g, cap, cur, hv, _, hg, _⟩
  · refine ⟨none, 0, by rw [hv, hn], fun h0 => ?_⟩
    rw [show ints l = [] by unfold ints; rw [List.length_eq_zero_iff.1 hn]; rfl] at h0
    simp at h0
  · refine ⟨_, cap, hv, fun _ => ⟨g, 0, rfl, (Array.getElem?_eq_some_iff.1 hg).1, fun k x hk => ?_⟩⟩
    have := World.ownsRow.cells h (g := g) (by rw [hv]; rfl) k x hk
    rwa [show (⟨g, 0, none⟩ : Addr).add k = ⟨g, 0 + k, none⟩ by unfold Addr.add; split <;> simp_all] at this

theorem bes_hit {C k : Int} {m : Nat} (h : Zn.besP C k m = true) : Zn.bes C k (m + 1) = Zn.bes C k m ++ [(m : Int)] := by rw [Zn.bes_succ, if_pos h]
theorem bes_miss {C k : Int} {m : Nat} (h : Zn.besP C k m = false) : Zn.bes C k (m + 1) = Zn.bes C k m := by rw [Zn.bes_succ, h]; simp

set_option maxHeartbeats 1000000 in
theorem beside_no (b : Option Addr) (k : Int) (w : World) (h : Hid (Calls Try.prog 35 #[.pointer b, .int .i64 k] w fun e w' => e = .returned (.bool false) ∧ Below w.heap.size w w')) :
    Calls Try.prog 27 #[.pointer b, .int .i64 k] w fun e w' => e = .returned (.slice none 0 0) ∧ Below w.heap.size w w' := by
  go_enter Try.func27, Try.ntmps27
  go_wp2_with fail
  refine h.out.mono ?_
  rintro e w1 ⟨rfl, b1⟩
  go_wp2
  go_ret
  exact ⟨rfl, b1⟩
set_option maxHeartbeats 4000000 in
set_option maxRecDepth 100000 in
theorem beside_some (b : Nat) (C R S D V N Q k : Int) (w : World) (h : MapAt w b C R S D V N Q) (ok : Ok C R S D V) (hk : There C R k) :
    Calls Try.prog 27 #[.pointer (some ⟨b, 0, none⟩), .int .i64 k] w fun e w' => ∃ v, e = .returned v ∧ Own w' w.heap.size v (Zn.beside C R k) ∧ Below w.heap.size w w' := by
  have T := Lib.hid (there_any b C R S D V N Q k w h ok)
  rw [show decide (There C R k) = true from decide_eq_true hk] at T
  have CN := Lib.hid (fun W (hb : Below w.heap.size w W) => count_any b C R S D V N Q W (h.below hb) ok)
  have m := Zn.mul_bd ok
  obtain ⟨M, hM⟩ : ∃ M : Nat, C * R = (M : Int) := ⟨(C * R).toNat, by omega⟩
  have X := Lib.hid (fun W (hb : Below w.heap.size w W) n (hn : There C R n) => column_any b C R S D V N Q n W (h.below hb) ok hn)
  have Y := Lib.hid (fun W (hb : Below w.heap.size w W) n (hn : There C R n) => row_any b C R S D V N Q n W (h.below hb) ok hn)
  have F := Lib.hid (fun W n (hn : There C R n) => far_any (n % C) (n / C) (k % C) (k / C) W
    (by have := Zn.col_bd (k := n) ok; have := ok.c1; unfold I; omega) (by have := Zn.row_bd ok hn; have := ok.r1; unfold I; omega)
    (by have := Zn.col_bd (k := k) ok; have := ok.c1; unfold I; omega) (by have := Zn.row_bd ok hk; have := ok.r1; unfold I; omega))
  have HK := Lib.hid hk
  have TH := Lib.hid (fun (m : Nat) (hm : m < M) => show There C R (m : Int) from ⟨by omega, by omega⟩)
  have HB : Zn.beside C R k = Zn.bes C k M := by unfold Zn.beside; rw [if_pos hk, hM]; rfl
  rw [HB]
  rw [hM] at CN m
  clear h ok hk HB hM
  obtain ⟨i0, hi, hz0, hz1, hz2⟩ := info_parts int_info
  have HI := Lib.hid (And.intro hi (And.intro hz0 (And.intro hz1 hz2)))
  clear hi hz0 hz1 hz2
  go_enter Try.func27, Try.ntmps27
  go_wp2_with fail
  refine T.out.mono ?_
  rintro e w1 ⟨rfl, b1⟩
  clear T
  go_wp2_with fail
  refine (CN.out _ b1).mono ?_
  rintro e w2 ⟨rfl, b2⟩
  clear CN
  have b3 := b1.trans (b2.mono b1.size)
  clear b1 b2
  go_wp2
  go_loopw [5, 6, 13] (fun v _ i wr => ∃ m : Nat, m ≤ M ∧ i = .int .i64 m ∧ Own wr w.heap.size v (Zn.bes C k m) ∧ Below w.heap.size w wr) (fun _ _ i _ => M - (intOf i).toNat)
  case atStart => exact ⟨0, Nat.zero_le _, rfl, own_nil _ _, b3⟩
  case round =>
    obtain ⟨m, hm, rfl, hown, hbel⟩ := hrel
    clear b3
    by_cases hlt : m < M
    · have Xm := Lib.hid (X.out wr hbel m (TH.out m hlt))
      have Xk := Lib.hid (X.out wr hbel k HK.out)
      have Ym := Lib.hid (Y.out wr hbel m (TH.out m hlt))
      have Yk := Lib.hid (Y.out wr hbel k HK.out)
      have Fm := Lib.hid (F.out wr m (TH.out m hlt))
      have hp : Zn.besP C k m = (decide ((m : Int) ≠ k) && decide (Rc.far ((m : Int) % C) ((m : Int) / C) (k % C) (k / C) ≤ 1)) := rfl
      have HP := Lib.hid hp
      clear hp X Y F TH
      have HO := Lib.hid hown
      have HB := Lib.hid hbel
      have hlen := Zn.bes_len C k m
      have hsz := hbel.size
      clear hown hbel
      generalize (m : Int) % C = cm at *
      generalize (m : Int) / C = rm at *
      generalize k % C = ck at *
      generalize k / C = rk at *
      generalize Rc.far cm rm ck rk = f at *
      by_cases hmk : (m : Int) = k
      · have hb : Zn.besP C k m = false := by rw [HP.out]; simp [hmk]
        have R' := HO.out
        rw [← bes_miss hb] at R'
        have R := Lib.hid R'
        clear R' HP hb
        go_wp2
        go_roundw
        case rel => exact ⟨m + 1, by omega, by go_num, R.out, HB.out⟩
        case measure => simp [intOf]; omega
      · by_cases hf : f ≤ 1
        · have hb : Zn.besP C k m = true := by rw [HP.out]; simp [hmk, hf]
          have HBB := Lib.hid hb
          clear HP hb
          go_wp2_with (first
            | (go_at_call 36; (first | (with_reducible refine Xm.out.mono ?_) | (with_reducible refine Xk.out.mono ?_)); rintro e w' ⟨rfl, rfl⟩)
            | (go_at_call 37; (first | (with_reducible refine Ym.out.mono ?_) | (with_reducible refine Yk.out.mono ?_)); rintro e w' ⟨rfl, rfl⟩)
            | (go_at_call 43; (with_reducible refine Fm.out.mono ?_); rintro e w' ⟨rfl, rfl⟩)
            | (at_builtin; refine wpList_append_own _ rfl _ _ 46 rfl w.heap.size 3 i0 (.int .i64 0) 1 8 ints_und HI.out.1 HI.out.2.1 HI.out.2.2.1 HI.out.2.2.2 rfl (by decide) _ _ _ rfl (World.ownsRow.alloc HO.out _) ⟨wr.heap.size, 0, none⟩ 1 1 [.int .i64 (m : Int)] rfl rfl (by intro j u hj; match j, hj with | 0, hj => simp at hj; subst hj; simp [Addr.add]) (by intro u hu; simp at hu; subst hu; rfl) (by unfold maxLen; omega) (by omega) (by rw [size1]; omega) ?_; intro v' w1 hown' hgrow _))
          have R' := push_step HO.out HB.out hsz hown' hgrow
          rw [← bes_hit HBB.out] at R'
          have R := Lib.hid R'
          clear R' hown' hgrow HO HB
          go_wp2
          go_roundw
          case rel => exact ⟨m + 1, by omega, by go_num, R.out.1, R.out.2⟩
          case measure => simp [intOf]; omega
        · have hb : Zn.besP C k m = false := by rw [HP.out]; simp [hf]
          have R' := HO.out
          rw [← bes_miss hb] at R'
          have R := Lib.hid R'
          clear R' HP hb
          go_wp2_with (first
            | (go_at_call 36; (first | (with_reducible refine Xm.out.mono ?_) | (with_reducible refine Xk.out.mono ?_)); rintro e w' ⟨rfl, rfl⟩)
            | (go_at_call 37; (first | (with_reducible refine Ym.out.mono ?_) | (with_reducible refine Yk.out.mono ?_)); rintro e w' ⟨rfl, rfl⟩)
            | (go_at_call 43; (with_reducible refine Fm.out.mono ?_); rintro e w' ⟨rfl, rfl⟩))
          go_roundw
          case rel => exact ⟨m + 1, by omega, by go_num, R.out, HB.out⟩
          case measure => simp [intOf]; omega
    · obtain rfl : m = M := by omega
      go_wp2
      go_ret
      exact ⟨_, rfl, hown, hbel⟩

theorem beside_any (b : Nat) (C R S D V N Q k : Int) (w : World) (h : MapAt w b C R S D V N Q) (ok : Ok C R S D V) :
    Calls Try.prog 27 #[.pointer (some ⟨b, 0, none⟩), .int .i64 k] w fun e w' => ∃ v, e = .returned v ∧ Own w' w.heap.size v (Zn.beside C R k) ∧ Below w.heap.size w w' := by
  by_cases hk : There C R k
  · exact beside_some b C R S D V N Q k w h ok hk
  · have := there_any b C R S D V N Q k w h ok
    rw [decide_eq_false hk] at this
    refine (beside_no _ k w (Lib.hid this)).mono fun e w' hh => ⟨_, hh.1, ?_, hh.2⟩
    unfold Zn.beside
    rw [if_neg hk]
    exact own_nil _ _
theorem beside_nil (k : Int) (w : World) :
    Calls Try.prog 27 #[.pointer none, .int .i64 k] w fun e w' => e = .returned (.slice none 0 0) ∧ Below w.heap.size w w' :=
  beside_no _ k w (Lib.hid ((there_nil k w).mono fun _ _ h => ⟨h.1, h.2 ▸ Below.refl _ _⟩))
end Go.Proofs.Ytloogafnkkbigaa
