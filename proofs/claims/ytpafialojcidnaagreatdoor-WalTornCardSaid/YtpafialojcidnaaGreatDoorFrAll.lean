/- All, the code's and the document's. -/
import Derived.Test.YtpafialojcidnaaGreatDoorFrFirst
import Derived.LoopTactic
import Derived.OwnWalk
import Derived.WalkKit
namespace Go.Proofs.YtpafialojcidnaaGreatDoor
open Go.RowKit
set_option linter.unusedVariables false

theorem str_info : (Tryz.prog.info? 9).map (fun i => (i.zero, i.size, i.bytes)) = some (some (.string ⟨#[]⟩), 1, 16) := by kernel_rfl
theorem strs_und : Tryz.prog.underlying 22 = some (.slice 9) := by kernel_rfl
/-- a row of texts that the call itself made -/
abbrev OwnS (W : World) (B : Nat) (v : Value) (l : List (List UInt8)) : Prop := W.ownsRow B 9 1 v l.length (strings l)
theorem owns_nil (W : World) (B : Nat) : OwnS W B (.slice none 0 0) [] := World.ownsRow_nil _ _ _ _
theorem below_grown {W W' : World} (hb : Below W.heap.size W W') : W.grownBy W' none := ⟨hb.os, hb.tape, hb.output, hb.size, fun k hk _ => hb.block k hk⟩
theorem owns_below {W W' : World} {B : Nat} {v : Value} {l : List (List UInt8)} (h : OwnS W B v l) (hb : Below W.heap.size W W') : OwnS W' B v l :=
  World.ownsRow.kept h (below_grown hb) (by cases v.ownBlock <;> simp)
theorem owns_base {W : World} {B B' : Nat} {v : Value} {l : List (List UInt8)} (h : OwnS W B v l) (hb : B' ≤ B) : OwnS W B' v l := by
  refine ⟨h.1, ?_⟩
  rcases h.2 with hn | ⟨g, cap, cur, e, hg, rest⟩
  · exact .inl hn
  · exact .inr ⟨g, cap, cur, e, by omega, rest⟩
theorem strings_snoc (l : List (List UInt8)) (x : List UInt8) : strings (l ++ [x]) = strings l ++ [.string ⟨x.toArray⟩] := by simp [strings]
theorem pushs_step {B : Nat} {w wr w1 : World} {v v' : Value} {l : List (List UInt8)} {x : List UInt8} {o : Obj} (hown : OwnS wr B v l) (hnx : Below B w wr) (hB : B ≤ wr.heap.size)
    (hown' : w1.ownsRow B 9 1 v' (l.length + 1) (strings l ++ [.string ⟨x.toArray⟩])) (hgrow : (wr.alloc o).grownBy w1 v.ownBlock) : OwnS w1 B v' (l ++ [x]) ∧ Below B w w1 :=
  ⟨by show w1.ownsRow B 9 1 v' (l ++ [x]).length (strings (l ++ [x])); rw [strings_snoc]; simpa using hown', (hnx.alloc hB o).grown hgrow (by simp; omega) (fun j hj => (World.ownsRow.lt hown j hj).1)⟩
theorem owns_len {W : World} {B : Nat} {v : Value} {l : List (List UInt8)} (h : OwnS W B v l) : ∃ A cap, v = .slice A l.length cap := by
  rcases h.2 with ⟨hv, hn⟩ | ⟨g, cap, cur, hv, _⟩
  · exact ⟨none, 0, by rw [hv, hn]⟩
  · exact ⟨_, cap, hv⟩
/-- the row's slice and its cells -/
theorem owns_at {W : World} {B : Nat} {v : Value} {l : List (List UInt8)} (h : OwnS W B v l) : ∃ A cap, v = .slice A l.length cap ∧ Reads W W.heap.size A (strings l) := by
  rcases h.2 with ⟨hv, hn⟩ | ⟨g, cap, cur, hv, _, hg, _⟩
  · refine ⟨none, 0, by rw [hv, hn], fun h0 => ?_⟩
    rw [show strings l = [] by unfold strings; rw [List.length_eq_zero_iff.1 hn]; rfl] at h0
    simp at h0
  · refine ⟨_, cap, hv, fun _ => ⟨g, 0, rfl, (Array.getElem?_eq_some_iff.1 hg).1, fun k x hk => ?_⟩⟩
    have := World.ownsRow.cells h (g := g) (by rw [hv]; rfl) k x hk
    rwa [show (⟨g, 0, none⟩ : Addr).add k = ⟨g, 0 + k, none⟩ by unfold Addr.add; split <;> simp_all] at this

/-- how far All has come -/
def Way (s : List UInt8) (a : Nat) (acc : List (List UInt8)) : Prop := a ≤ s.length ∧ a = Fr.place acc ∧ acc ++ Fr.all (s.drop a) = Fr.all s
theorem way_start (s : List UInt8) : Way s 0 [] := ⟨Nat.zero_le _, rfl, rfl⟩
theorem way_next {s t : List UInt8} {a : Nat} {acc : List (List UInt8)} (h : Way s a acc) (hf : Fr.first (s.drop a) = (0, t)) : Way s (a + (t.length + 7)) (acc ++ [t]) ∧ a < a + (t.length + 7) ∧ t.length ≤ 65536 := by
  obtain ⟨h1, h2, h3⟩ := h
  have h0 : (Fr.first (s.drop a)).1 = 0 := by rw [hf]
  have hz := Fr.first_zero h0
  rw [hf, List.length_drop] at hz
  refine ⟨⟨by simp at hz; omega, by rw [Fr.place_snoc, ← h2], ?_⟩, by omega, hz.2⟩
  have := Fr.all_step h0
  rw [hf, List.drop_drop] at this
  rw [← h3, this, List.append_assoc]
  rfl
theorem way_end {s : List UInt8} {a e : Nat} {acc : List (List UInt8)} {t : List UInt8} (h : Way s a acc) (hf : Fr.first (s.drop a) = (e, t)) (he : e ≠ 0) : Fr.all s = acc ∧ (a : Int) = (Fr.place (Fr.all s) : Nat) ∧ t = [] := by
  obtain ⟨h1, h2, h3⟩ := h
  have h0 : (Fr.first (s.drop a)).1 ≠ 0 := by rw [hf]; exact he
  have := Fr.all_stop h0
  rw [this, List.append_nil] at h3
  have hb := Fr.first_bad h0
  rw [hf] at hb
  exact ⟨h3.symm, by rw [← h3, h2], hb⟩
theorem way_few {s : List UInt8} {a : Nat} {acc : List (List UInt8)} (h : Way s a acc) : acc.length ≤ s.length := by
  have : ∀ l : List (List UInt8), l.length ≤ Fr.place l := by
    intro l
    induction l with
    | nil => exact Nat.zero_le _
    | cons x l ih => rw [Fr.place_cons, List.length_cons]; omega
  have h1 := h.1
  have h2 := h.2.1
  have := this acc
  omega
theorem ret_pair {a a' b b' : Value} (h : a = a') (k : b = b') : Ending.returned (.tuple #[a, b]) = .returned (.tuple #[a', b']) := by rw [h, k]

set_option maxHeartbeats 2000000 in
set_option maxRecDepth 100000 in
theorem all_any (s : List UInt8) (w : World) (hs : s.length ≤ 1000000000) (hg : Good w) :
    Calls Tryz.prog 57 #[.string ⟨s.toArray⟩] w fun e w' => ∃ v, e = .returned (.tuple #[v, .int .i64 (Fr.place (Fr.all s) : Nat)]) ∧ OwnS w' w.heap.size v (Fr.all s) ∧ Below w.heap.size w w' := by
  have FI := Lib.hid (fun (a : Nat) W (hW : Below w.heap.size w W) => first_any s a W (by omega) (hg.below hW (Nat.le_refl _)))
  obtain ⟨i0, hi, hz0, hz1, hz2⟩ := info_parts str_info
  have HI := Lib.hid (And.intro hi (And.intro hz0 (And.intro hz1 hz2)))
  clear hi hz0 hz1 hz2 hg
  have b0 := Below.refl w.heap.size w
  go_enter Tryz.func57, Tryz.ntmps57
  go_wp2
  go_loopw [4, 5] (fun v i wr => ∃ (a : Nat) (acc : List (List UInt8)), i = .int .i64 a ∧ Hid (Way s a acc) ∧ Hid (OwnS wr w.heap.size v acc) ∧ Hid (Below w.heap.size w wr)) (fun _ i _ => s.length - (intOf i).toNat)
  case atStart => exact ⟨0, [], rfl, Lib.hid (way_start s), Lib.hid (owns_nil _ _), Lib.hid b0⟩
  case round =>
    obtain ⟨a, acc, rfl, way, hown, hbel⟩ := hrel
    clear b0
    have ha := way.out.1
    have F := Lib.hid (FI.out a _ hbel.out)
    have hsz := hbel.out.size
    have hfew := way_few way.out
    clear FI
    rcases hfi : Fr.first (s.drop a) with ⟨e, t⟩
    by_cases he : e = 0
    · subst he
      obtain ⟨wn, hlt, htl⟩ := way_next way.out hfi
      have WN := Lib.hid wn
      have hal := wn.1
      rw [reads1_ok ha hfi] at F
      rw [show (a : Int) + t.length + 7 = ((a + (t.length + 7) : Nat) : Int) by omega] at F
      clear hfi wn way
      generalize a + (t.length + 7) = a2 at *
      go_wp2_with fail
      refine F.out.mono ?_
      rintro e w1 ⟨rfl, b1⟩
      have HO := Lib.hid (owns_below hown.out b1)
      have HB := Lib.hid (hbel.out.trans (b1.mono hsz))
      have hsz1 := HB.out.size
      clear hown hbel b1 F hsz
      go_wp2_with (at_builtin; refine wpList_append_own _ rfl _ _ 22 rfl w.heap.size 9 i0 (.string ⟨#[]⟩) 1 16 strs_und HI.out.1 HI.out.2.1 HI.out.2.2.1 HI.out.2.2.2 rfl (by decide) _ _ _ rfl (World.ownsRow.alloc HO.out _) ⟨w1.heap.size, 0, none⟩ 1 1 [.string ⟨t.toArray⟩] rfl rfl (by intro j u hj; match j, hj with | 0, hj => simp at hj; subst hj; simp [Addr.add]) (by intro u hu; simp at hu; subst hu; rfl) (by unfold maxLen; omega) (by omega) (by rw [size1]; omega) ?_; intro v' w2 hown' hgrow _)
      have R' := pushs_step HO.out HB.out hsz1 hown' hgrow
      have R := Lib.hid R'
      clear R' hown' hgrow HO HB
      go_wp2
      go_roundw
      case rel => exact ⟨a2, _, rfl, WN, Lib.hid R.out.1, Lib.hid R.out.2⟩
      case measure => simp [intOf]; omega
    · obtain ⟨h1, h2, rfl⟩ := way_end way.out hfi he
      have hne : ((e : Int) != 0) = true := by simp; omega
      have H1 := Lib.hid h1
      have H2 := Lib.hid h2
      rw [reads1_bad ha hfi he] at F
      clear hfi way h1 h2
      go_wp2_with fail
      refine F.out.mono ?_
      rintro e w1 ⟨rfl, b1⟩
      go_wp2
      go_ret2
      exact ⟨_, ret_pair rfl (by rw [← H2.out]; rfl), by rw [H1.out]; exact owns_below hown.out b1, hbel.out.trans (b1.mono hsz)⟩
end Go.Proofs.YtpafialojcidnaaGreatDoor
