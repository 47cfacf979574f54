/- WlPure3, DkLawP, WlLg, WlAwake, in one text. -/
import Derived.Test.YtpafialojcidnaaGreatDoorWlPure2
import Derived.Test.YtpafialojcidnaaGreatDoorDkPure
import Derived.Test.YtpafialojcidnaaGreatDoorWlDrop
import Derived.Test.YtpafialojcidnaaGreatDoorWlApp
namespace Go.Proofs.YtpafialojcidnaaGreatDoor
set_option linter.unusedVariables false
namespace Wl
open Dk

/-- full segments were not full ahead of their last record -/
structure Bd (I : List (List Str)) (R : List Str) : Prop where
  full : ∀ s ∈ I, 4096 ≤ Fr.place s ∧ Fr.place s.dropLast < 4096
  last : Fr.place R.dropLast < 4096
theorem bd_new : Bd [] [] := ⟨fun _ h => (by cases h), by decide⟩
section
variable {K : St} {nm : Str} {n0 : Nat} {I : List (List Str)} {R : List Str}
/-- one record, where there is room -/
theorem Lg.lay (h : Lg K nm n0 I R) {r : Str} (hr : r.length ≤ 65536) (ht : n0 + tot I + R.length < 99999999) (hf : I.length < 63 ∨ Fr.place R < 4096) :
    ∃ K' I' R', lay1 K ⟨nm, n0 + tot I, n0 + tot I + R.length⟩ r = (K', ⟨nm, n0 + tot I', n0 + tot I' + R'.length⟩, 0) ∧ Lg K' nm n0 I' R' ∧ (I' ++ [R']).flatten = (I ++ [R]).flatten ++ [r] ∧ I'.length ≤ I.length + 1 ∧ (Bd I R → Bd I' R') ∧ tot I' + R'.length = tot I + R.length + 1 ∧
      ((Fr.place R < 4096 ∧ I' = I ∧ R' = R ++ [r]) ∨ (4096 ≤ Fr.place R ∧ I' = I ++ [R] ∧ R' = [r])) := by
  obtain ⟨b, hs⟩ := h.size
  by_cases hp : Fr.place R < 4096
  · obtain ⟨K', ha, L⟩ := h.app hp hr ht
    refine ⟨K', I, R ++ [r], ?_, L, by simp, by omega, fun hb => ⟨hb.full, by rw [List.dropLast_concat]; exact hp⟩, by simp; omega, .inl ⟨hp, rfl, rfl⟩⟩
    have hpl : place1 K ⟨nm, n0 + tot I, n0 + tot I + R.length⟩ = (K, n0 + tot I, 0) := by
      unfold place1
      dsimp only
      rw [hs]
      dsimp only
      rw [if_neg (by decide), if_pos hp]
    unfold lay1
    rw [if_neg (by omega), hpl]
    dsimp only
    rw [if_neg (by decide), ha]
    dsimp only
    rw [if_neg (by decide)]
    simp [Nat.add_assoc]
  · obtain ⟨K1, hy, L1⟩ := h.sync
    obtain ⟨K', ha, L⟩ := L1.more (r := r) (by omega) hr ht (by omega)
    refine ⟨K', I ++ [R], [r], ?_, L, by simp, by simp, fun hb => ⟨fun s hsm => ?_, by show Fr.place [] < 4096; decide⟩, by rw [tot_snoc]; simp, .inr ⟨by omega, rfl, rfl⟩⟩
    · have hpl : place1 K ⟨nm, n0 + tot I, n0 + tot I + R.length⟩ = (K1, n0 + tot I + R.length, 0) := by
        unfold place1
        dsimp only
        rw [hs]
        dsimp only
        rw [if_neg (by decide), if_neg hp, hy]
        dsimp only
        rw [if_neg (by decide), if_neg (by omega)]
      unfold lay1
      rw [if_neg (by omega), hpl]
      dsimp only
      rw [if_neg (by decide), ha]
      dsimp only
      rw [if_neg (by decide), tot_snoc]
      simp [Nat.add_assoc]
    · rcases List.mem_append.1 hsm with hsm | hsm
      · exact hb.full s hsm
      · rw [List.mem_singleton] at hsm
        rw [hsm]
        exact ⟨by omega, hb.last⟩
/-- one record, where there is none -/
theorem Lg.layFull (h : Lg K nm n0 I R) {r : Str} (hr : r.length ≤ 65536) (ht : n0 + tot I + R.length ≤ 99999999) (hf : I.length = 63) (hp : 4096 ≤ Fr.place R) :
    ∃ K', lay1 K ⟨nm, n0 + tot I, n0 + tot I + R.length⟩ r = (K', ⟨nm, n0 + tot I, n0 + tot I + R.length⟩, 8) ∧ Lg K' nm n0 I R := by
  obtain ⟨b, hs⟩ := h.size
  obtain ⟨K1, hy, L1⟩ := h.sync
  have ha := L1.full (t := Fr.frame r) hp hf ht
  refine ⟨K1, ?_, L1⟩
  have hpl : place1 K ⟨nm, n0 + tot I, n0 + tot I + R.length⟩ = (K1, n0 + tot I + R.length, 0) := by
    unfold place1
    dsimp only
    rw [hs]
    dsimp only
    rw [if_neg (by decide), if_neg (by omega), hy]
    dsimp only
    rw [if_neg (by decide), if_neg (by omega)]
  unfold lay1
  rw [if_neg (by omega), hpl]
  dsimp only
  rw [if_neg (by decide), ha]
  dsimp only
  rw [if_pos (by decide)]
/-- many records -/
theorem Lg.lays {rs : List Str} : ∀ {K : St} {I : List (List Str)} {R : List Str}, Lg K nm n0 I R → (∀ r ∈ rs, r.length ≤ 65536) → n0 + tot I + R.length + rs.length ≤ 99999999 → I.length + rs.length ≤ 63 →
    ∃ K' I' R', Wl.lays K ⟨nm, n0 + tot I, n0 + tot I + R.length⟩ rs = (K', ⟨nm, n0 + tot I', n0 + tot I' + R'.length⟩, 0) ∧ Lg K' nm n0 I' R' ∧ (I' ++ [R']).flatten = (I ++ [R]).flatten ++ rs ∧ I'.length ≤ I.length + rs.length ∧ (Bd I R → Bd I' R') := by
  induction rs with
  | nil => intro K I R h _ _ _; exact ⟨K, I, R, rfl, h, by simp, by simp, id⟩
  | cons r rs ih =>
    intro K I R h hr ht hf
    rw [List.length_cons] at ht hf
    obtain ⟨K1, I1, R1, e1, L1, f1, n1, b1, t1, _⟩ := h.lay (hr r (List.mem_cons_self ..)) (by omega) (by omega)
    obtain ⟨K2, I2, R2, e2, L2, f2, n2, b2⟩ := ih L1 (fun x hx => hr x (List.mem_cons_of_mem _ hx)) (by omega) (by omega)
    refine ⟨K2, I2, R2, ?_, L2, by rw [f2, f1, List.append_assoc]; rfl, by rw [List.length_cons]; omega, fun hb => b2 (b1 hb)⟩
    rw [Wl.lays, e1]
    dsimp only
    rw [if_neg (by decide)]
    exact e2
theorem Lg.appendL (h : Lg K nm n0 I R) {rs : List Str} (hr : ∀ r ∈ rs, r.length ≤ 65536) (ht : n0 + tot I + R.length + rs.length ≤ 99999999) (hf : I.length + rs.length ≤ 63) :
    ∃ K' I' R', Wl.appendL K ⟨nm, n0 + tot I, n0 + tot I + R.length⟩ rs = (K', ⟨nm, n0 + tot I', n0 + tot I' + R'.length⟩, 0) ∧ Lg K' nm n0 I' R' ∧ (I' ++ [R']).flatten = (I ++ [R]).flatten ++ rs ∧ I'.length ≤ I.length + rs.length ∧ (Bd I R → Bd I' R') := by
  have hno : rs.any (fun r => decide (65536 < r.length)) = false := List.any_eq_false.2 fun r hm => by have := hr r hm; simp; omega
  unfold Wl.appendL
  rw [hno]
  simp only [Bool.false_eq_true, if_false]
  exact h.lays hr ht hf
theorem appendL_big {K : St} {g : Lo} {rs : List Str} {r : Str} (hm : r ∈ rs) (h : 65536 < r.length) : Wl.appendL K g rs = (K, g, 1) := by
  unfold Wl.appendL
  rw [if_pos (List.any_eq_true.2 ⟨r, hm, by simpa using h⟩)]
theorem appendL_one {K : St} {g : Lo} {r : Str} (h : r.length ≤ 65536) : Wl.appendL K g [r] = lay1 K g r := by
  unfold Wl.appendL
  rw [if_neg (by simp; omega), Wl.lays]
  split
  · rfl
  · rename_i hh
    rw [Wl.lays]
    have : (lay1 K g r).2.2 = 0 := by simpa using hh
    rw [← this]
/-- what is read of a log that is whole -/
theorem Lg.all (h : Lg K nm n0 I R) : (firsts n0 (I ++ [R])).map (fun n => Fr.all (got K nm n)) = I ++ [R] := by
  have key : ∀ (A B : List (List Str)) (m : Nat), I ++ [R] = A ++ B → m = n0 + tot A → (firsts m B).map (fun n => Fr.all (got K nm n)) = B := by
    intro A B
    induction B generalizing A with
    | nil => intro m _ _; rfl
    | cons Q B ih =>
      intro m he hm
      have hg := h.got_of he
      rw [firsts_cons, List.map_cons, ih (A ++ [Q]) (m + Q.length) (by rw [he]; simp) (by rw [tot_snoc]; omega)]
      congr 1
      rw [got, hm, hg]
      exact Fr.all_flat Q (h.small Q (by rw [he]; simp))
  exact key [] _ n0 rfl (by simp [tot])
theorem tot_flat {l : List Str} (h : (I ++ [R]).flatten = l) : tot I + R.length = l.length := by
  rw [← h, List.flatten_append, List.length_append]
  simp [tot]
theorem Lg.place_small (h : Lg K nm n0 I R) : Fr.place R ≤ 4194304 := by
  obtain ⟨f, hl, hf, hn, hx⟩ := h.vw.at_ h.split
  have := h.vw.ok.small f hf
  rw [hx, Fr.flat_len] at this
  exact this
/-- a log that is new -/
theorem lg_new (h : nm.length ≤ 16) : ∃ K, Dk.append Dk.new (file nm 0) [] = (K, 0) ∧ Lg K nm 0 [] [] := by
  obtain ⟨K, e, v⟩ := vw_more (t := []) vw_new (file_bad 0 h) (fun p hp => by cases hp) (by decide) (by decide)
  refine ⟨K, e, ⟨v, h, fun s hs => (by cases hs), fun s hs x hx => ?_, by simp [tot], by decide⟩⟩
  simp at hs
  rw [hs] at hx
  cases hx
end
end Wl
end Go.Proofs.YtpafialojcidnaaGreatDoor
namespace Go.Proofs.YtpafialojcidnaaGreatDoor
namespace Dk
def one (f : Fl) : St := ⟨[f], none, false⟩
theorem bad_one {s : Str} (h : bad s = true) (t : Str) : append new s t = (new, 1) := by simp [append, h]
theorem append_one {s t : Str} (h : bad s = false) (ht : t.length ≤ 4194304) : append new s t = (one ⟨s, [], t⟩, 0) := by
  rw [append_none h rfl rfl, if_neg (by simp [new]; omega)]
  simp [pay, fits, one, new, ins]
theorem look_one (f : Fl) : look (one f).L f.name = some f := by simp [look, one]
theorem has_one (f : Fl) (s : Str) : has (one f).L s = (f.name == s) := by simp [has, one]
theorem err_one {f : Fl} (h : bad f.name = false) : err (one f) f.name = 0 := by simp [err, h, one, has]
theorem err0_one {f : Fl} (h : bad f.name = false) : err0 (one f) f.name = 0 := by simp [err0, h, has_one]
theorem upd_one (f : Fl) (g : Fl → Fl) : upd (one f).L f.name g = [g f] := by simp [upd, one]
theorem sync_one {f : Fl} (h : bad f.name = false) : sync (one f) f.name = (one ⟨f.name, f.all, []⟩, 0) := by
  unfold sync
  rw [err_one h, if_pos rfl, upd_one]
  rfl
theorem append_two {f : Fl} {t : Str} (h : bad f.name = false) (ht : f.all.length + t.length ≤ 4194304) : append (one f) f.name t = (one { f with loose := f.loose ++ t }, 0) := by
  rw [append_some h rfl (look_one f), if_neg (by omega), upd_one]
  simp [pay, fits, one]
theorem append_full {f : Fl} {t : Str} (h : bad f.name = false) (ht : 4194304 < f.all.length + t.length) : append (one f) f.name t = (one f, 8) := by
  rw [append_some h rfl (look_one f), if_pos ht]
theorem read_one {f : Fl} (h : bad f.name = false) : read (one f) f.name = (f.all, 0) := by
  unfold read
  rw [err0_one h, if_pos rfl, look_one]
  rfl
theorem size_one {f : Fl} (h : bad f.name = false) : size (one f) f.name = (f.all.length, f.sure.length, 0) := by
  unfold size
  rw [err0_one h, if_pos rfl, look_one]
  rfl
theorem crash_one (f : Fl) (n : Int) : crash (one f) n = one (kept n f) := rfl
theorem trunc_one {f : Fl} (h : bad f.name = false) {n : Int} (hn : ¬ (n < 0 ∨ (f.all.length : Int) < n)) : trunc (one f) f.name n = (one (cutAt n.toNat f), 0) := by
  unfold trunc
  rw [err_one h, if_neg (by simp), look_one]
  simp only [Option.map_some, Option.getD_some]
  rw [if_neg hn, upd_one]
  rfl
theorem trunc_bad {f : Fl} (h : bad f.name = false) {n : Int} (hn : n < 0 ∨ (f.all.length : Int) < n) : trunc (one f) f.name n = (one f, 5) := by
  unfold trunc
  rw [err_one h, if_neg (by simp), look_one]
  simp only [Option.map_some, Option.getD_some]
  rw [if_pos hn]
theorem rename_bad {f : Fl} {t : Str} (h : bad f.name = false) (ht : bad t = true) : rename (one f) f.name t = (one f, 1) := by
  unfold rename
  rw [err_one h, if_neg (by simp), if_pos ht]
theorem rename_same {f : Fl} (h : bad f.name = false) : rename (one f) f.name f.name = (one f, 7) := by
  unfold rename
  rw [err_one h, if_neg (by simp), if_neg (by simp [h]), if_pos (by simp [has_one])]
theorem rename_one {f : Fl} {t : Str} (h : bad f.name = false) (ht : bad t = false) (hne : f.name ≠ t) : rename (one f) f.name t = (one { f with name := t }, 0) := by
  unfold rename
  rw [err_one h, if_neg (by simp), if_neg (by simp [ht]), if_neg (by simp [has_one, hne]), look_one]
  simp [del, one, ins]
theorem read_none {f : Fl} {s : Str} (h : bad s = false) (hne : f.name ≠ s) : read (one f) s = ([], 6) := by
  simp [read, err0, h, has_one, hne]
end Dk
end Go.Proofs.YtpafialojcidnaaGreatDoor
namespace Go.Proofs.YtpafialojcidnaaGreatDoor
open Go.RowKit Go.Maps Dk
open Wl (Lo Lg Tn)
set_option linter.unusedVariables false

/-- a log can have this name -/
structure NmOk (nm : Str) : Prop where
  one : 1 ≤ nm.length
  most : nm.length ≤ 16
  lets : ∀ c ∈ nm, c.toNat < 128 ∧ c ∈ lets

theorem lg_open {w W : World} {B d : Nat} {nm : Str} {K K1 : St} {n0 : Nat} {I : List (List Str)} {R : List Str} (h : Wa w B d K W) (hn : NmOk nm) (hb : Begin nm K K1 (Wl.firsts n0 (I ++ [R]))) (L : Lg K1 nm n0 I R) :
    Calls Tryz.prog 15 #[.pointer (some ⟨d, 0, none⟩), .string ⟨nm.toArray⟩] W fun x w' => ∃ b v K', x = .returned (.tuple #[.pointer (some ⟨b, 0, none⟩), v, .int .i64 0]) ∧ W.heap.size ≤ b ∧ OwnS w' W.heap.size v (I ++ [R]).flatten ∧ Wa w B d K' w' ∧ LogAt w' B b d ⟨nm, n0 + Wl.tot I, n0 + Wl.tot I + R.length⟩ ∧ Kp isRef W w' ∧ Lg K' nm n0 I R := by
  obtain ⟨K3, e3, L3⟩ := L.cut
  obtain ⟨K4, e4, L4⟩ := L3.sync
  have hlen : (Wl.firsts n0 (I ++ [R])).length = I.length + 1 := by rw [Wl.firsts_len, List.length_append]; rfl
  have hne : 0 < (Wl.firsts n0 (I ++ [R])).length := by omega
  have h0 : (Wl.firsts n0 (I ++ [R]))[0] = n0 := by
    have := Wl.firsts_at (I ++ [R]) n0 0 (by rw [List.length_append]; simp)
    have := (List.getElem?_eq_some_iff.1 this).2
    simpa [Wl.tot] using this
  have htop := L.top
  refine (lopen_any h hn.one hn.most hn.lets hb L.ns hne (R := ⟨(I ++ [R]).flatten, I.length + 1, Fr.place R, n0 + Wl.tot I, n0 + Wl.tot I + R.length⟩) (by rw [h0]; exact L.rd) (by dsimp only; omega) (by dsimp only; omega) L.place_small (K2 := K1) (by dsimp only; rw [List.drop_eq_nil_of_le (by omega)]; rfl) e3 e4).mono ?_
  rintro x w' ⟨b, v, rfl, h1, h2, h3, h4, h5⟩
  exact ⟨b, v, K4, rfl, h1, h2, h3, h4, h5, L4⟩
theorem lg_again {w W : World} {B d : Nat} {nm : Str} {K : St} {n0 : Nat} {I : List (List Str)} {R : List Str} (h : Wa w B d K W) (hn : NmOk nm) (L : Lg K nm n0 I R) :
    Calls Tryz.prog 15 #[.pointer (some ⟨d, 0, none⟩), .string ⟨nm.toArray⟩] W fun x w' => ∃ b v K', x = .returned (.tuple #[.pointer (some ⟨b, 0, none⟩), v, .int .i64 0]) ∧ W.heap.size ≤ b ∧ OwnS w' W.heap.size v (I ++ [R]).flatten ∧ Wa w B d K' w' ∧ LogAt w' B b d ⟨nm, n0 + Wl.tot I, n0 + Wl.tot I + R.length⟩ ∧ Kp isRef W w' ∧ Lg K' nm n0 I R :=
  lg_open h hn (.inl ⟨L.ns, by rw [Wl.firsts_len, List.length_append]; simp, rfl⟩) L
theorem lg_first {w W : World} {B d : Nat} {nm : Str} (h : Wa w B d Dk.new W) (hn : NmOk nm) :
    Calls Tryz.prog 15 #[.pointer (some ⟨d, 0, none⟩), .string ⟨nm.toArray⟩] W fun x w' => ∃ b v K', x = .returned (.tuple #[.pointer (some ⟨b, 0, none⟩), v, .int .i64 0]) ∧ W.heap.size ≤ b ∧ OwnS w' W.heap.size v [] ∧ Wa w B d K' w' ∧ LogAt w' B b d ⟨nm, 0, 0⟩ ∧ Kp isRef W w' ∧ Lg K' nm 0 [] [] := by
  obtain ⟨K1, e1, L1⟩ := Wl.lg_new hn.most
  exact lg_open (n0 := 0) (I := []) (R := []) h hn (.inr ⟨⟨rfl, fun _ h => (by cases h)⟩, e1, rfl⟩) L1

/-! ### a torn one -/
theorem tn_ns {K : St} {nm : Str} {n0 m : Nat} {A B : List (List Str)} {t : Str} (h : Tn K nm n0 A t B m) : Ns nm K (Wl.firsts n0 A ++ (n0 + Wl.tot A) :: Wl.firsts m B) := by
  have h1 := h.top
  have h2 := h.topm
  refine ⟨?_, fun n hn => ?_⟩
  · rw [h.vw.names, List.map_append, List.map_append, List.map_cons, List.map_cons, Wl.vv, Wl.vv, Wl.firsts, Wl.firsts, List.map_map, List.map_map, List.map_map, List.map_map]; rfl
  · rcases List.mem_append.1 hn with hn | hn
    · obtain ⟨j, hj⟩ := List.getElem?_of_mem hn
      have := Wl.firsts_le hj
      omega
    · rcases List.mem_cons.1 hn with rfl | hn
      · omega
      · obtain ⟨j, hj⟩ := List.getElem?_of_mem hn
        have := Wl.firsts_le hj
        omega
theorem tn_open {w W : World} {B0 d : Nat} {nm : Str} {K : St} {n0 m : Nat} {A B : List (List Str)} {t : Str} (h : Wa w B0 d K W) (hn : NmOk nm) (T : Tn K nm n0 A t B m) :
    Calls Tryz.prog 15 #[.pointer (some ⟨d, 0, none⟩), .string ⟨nm.toArray⟩] W fun x w' => ∃ b v K', x = .returned (.tuple #[.pointer (some ⟨b, 0, none⟩), v, .int .i64 0]) ∧ W.heap.size ≤ b ∧ OwnS w' W.heap.size v (A.flatten ++ Fr.all t) ∧ Wa w B0 d K' w' ∧ LogAt w' B0 b d ⟨nm, n0 + Wl.tot A, n0 + Wl.tot A + (Fr.all t).length⟩ ∧ Kp isRef W w' ∧ Lg K' nm n0 A (Fr.all t) := by
  obtain ⟨K2, K3, K4, r2, e3, e4, L4⟩ := T.mend
  have htop := T.top
  have hne : 0 < (Wl.firsts n0 A ++ (n0 + Wl.tot A) :: Wl.firsts m B).length := by rw [List.length_append, List.length_cons]; omega
  have h0 : (Wl.firsts n0 A ++ (n0 + Wl.tot A) :: Wl.firsts m B)[0] = n0 := by
    cases A with
    | nil => simp [Wl.firsts, Wl.sg, Wl.tot]
    | cons Q A => simp [Wl.firsts_cons]
  have hd : (Wl.firsts n0 A ++ (n0 + Wl.tot A) :: Wl.firsts m B).drop (A.length + 1) = Wl.firsts m B := by
    rw [show Wl.firsts n0 A ++ (n0 + Wl.tot A) :: Wl.firsts m B = (Wl.firsts n0 A ++ [n0 + Wl.tot A]) ++ Wl.firsts m B by simp]
    exact List.drop_left' (by rw [List.length_append, Wl.firsts_len]; rfl)
  refine (lopen_any h hn.one hn.most hn.lets (.inl ⟨tn_ns T, hne, rfl⟩) (tn_ns T) hne (R := ⟨A.flatten ++ Fr.all t, A.length + 1, Fr.place (Fr.all t), n0 + Wl.tot A, n0 + Wl.tot A + (Fr.all t).length⟩) (by rw [h0]; exact T.rd) (by dsimp only; rw [List.length_append, Wl.firsts_len, List.length_cons]; omega) (by dsimp only; omega) L4.place_small (K2 := K2) (by dsimp only; rw [hd]; exact r2) e3 e4).mono ?_
  rintro x w' ⟨b, v, rfl, h1, h2, h3, h4, h5⟩
  exact ⟨b, v, K4, rfl, h1, h2, h3, h4, h5, L4⟩

/-! ### the law's own -/
set_option maxHeartbeats 1000000 in
set_option maxRecDepth 100000 in
theorem same_any (A : Option Addr) (cap : Nat) (A2 : Option Addr) (cap2 : Nat) (l : List (List UInt8)) (w : World) (B B2 : Nat) (hl : l.length ≤ 140737488351232) (hr : Reads w B A (strings l)) (hr2 : Reads w B2 A2 (strings l)) :
    Calls Tryz.prog 12 #[.slice A l.length cap, .slice A2 l.length cap2] w fun e w' => e = .returned (.bool true) ∧ Below w.heap.size w w' := by
  have hne : ((l.length : Int) != (l.length : Int)) = false := by simp
  have b0 := Lib.hid (Below.refl w.heap.size w)
  go_enter Tryz.func12, Tryz.ntmps12
  go_wp2
  go_loopw [5] (fun i wr => ∃ k : Nat, k ≤ l.length ∧ i = .int .i64 k ∧ Hid (Below w.heap.size w wr) ∧ Hid (Reads wr B A (strings l)) ∧ Hid (Reads wr B2 A2 (strings l))) (fun i _ => l.length - (intOf i).toNat)
  case atStart => exact ⟨0, Nat.zero_le _, rfl, b0, Lib.hid hr, Lib.hid hr2⟩
  case round =>
    obtain ⟨k, hk, rfl, hbel, r1, r2⟩ := hrel
    clear b0 hr hr2
    by_cases hlt : k < l.length
    · obtain ⟨x, hx⟩ : ∃ x, x = l[k] := ⟨_, rfl⟩
      obtain ⟨b, off, rfl, hbB, hc⟩ := r1.out.at_ (k := k) (by simpa [strings] using hlt)
      obtain ⟨b2, off2, rfl, hbB2, hc2⟩ := r2.out.at_ (k := k) (by simpa [strings] using hlt)
      have k1 : wr.cell? ⟨b, off + k, none⟩ = some (.string ⟨x.toArray⟩) := by rw [hc, hx]; simp [strings]
      have k2 : wr.cell? ⟨b2, off2 + k, none⟩ = some (.string ⟨x.toArray⟩) := by rw [hc2, hx]; simp [strings]
      have hlt' : (k : Int) < (l.length : Int) := by omega
      have hxx : (x == x) = true := by simp
      clear hx hc hc2
      go_wp2
      go_quiet (fail)
      have r1' := Lib.hid (show Reads (wr.drewN nq) B (some ⟨b, off, none⟩) (strings l) from r1.out)
      have r2' := Lib.hid (show Reads (wr.drewN nq) B2 (some ⟨b2, off2, none⟩) (strings l) from r2.out)
      have HB := Lib.hid (Below.dn' hbel.out nq)
      clear r1 r2 hbel
      go_wp2
      go_roundw
      case rel => exact ⟨k + 1, by omega, by go_num, HB, r1', r2'⟩
      case measure => simp [intOf]; omega
    · obtain rfl : k = l.length := by omega
      go_wp2
      go_ret
      exact ⟨rfl, hbel.out⟩

/-- texts, neither too many nor too long -/
def Few (D : List Str) : Prop := D.length ≤ 30 ∧ ∀ r ∈ D, r.length ≤ 5000
set_option maxHeartbeats 4000000 in
set_option maxRecDepth 100000 in
theorem few_any (w : World) (A : Option Addr) (cap : Nat) (l : List Str) (hl : l.length ≤ 140737488351232) (hs : ∀ s ∈ l, s.length ≤ 140737488351232) {B : Nat} (hB : B ≤ w.heap.size) (hr : Reads w B A (strings l)) :
    Calls Tryz.prog 9 #[.slice A l.length cap] w fun e w' => ∃ v, e = .returned v ∧ ∃ D, Few D ∧ OwnS w' w.heap.size v D ∧ Below w.heap.size w w' := by
  have HR := Lib.hid hr
  have HS := Lib.hid hs
  clear hr hs
  obtain ⟨i0, hi, hz0, hz1, hz2⟩ := info_parts str_info
  have HI := Lib.hid (And.intro hi (And.intro hz0 (And.intro hz1 hz2)))
  clear hi hz0 hz1 hz2
  go_enter Tryz.func9, Tryz.ntmps9
  go_wp2
  go_loopw [3, 4] (fun u i wr => ∃ (k : Nat) (D : List Str), k ≤ l.length ∧ i = .int .i64 k ∧ D.length ≤ 30 ∧ Hid (Few D) ∧ Hid (OwnS wr w.heap.size u D) ∧ Hid (Below w.heap.size w wr)) (fun _ i _ => l.length - (intOf i).toNat)
  case atStart => exact ⟨0, [], Nat.zero_le _, rfl, by simp, Lib.hid ⟨by simp, fun x hx => by cases hx⟩, Lib.hid (owns_nil _ _), Lib.hid (Below.refl _ _)⟩
  case round =>
    obtain ⟨k, D, hk, rfl, hD, hF, hO, hb⟩ := hrel
    obtain ⟨A', c', rfl⟩ := owns_len hO.out
    by_cases hlt : k < l.length
    · have hlt' : (k : Int) < (l.length : Int) := by omega
      by_cases h30 : D.length < 30
      · have h30' : (D.length : Int) < 30 := by omega
        have hR := HR.out.below (hb.out.mono hB)
        obtain ⟨b, off, rfl, hbB, hcs⟩ := hR.at_ (k := k) (by simpa [strings] using hlt)
        have hc : wr.cell? ⟨b, off + k, none⟩ = some (.string ⟨(l[k] : Str).toArray⟩) := by rw [hcs]; simp [strings]
        have hx := HS.out _ (List.getElem_mem hlt)
        generalize (l[k] : Str) = x at *
        have hsz := hb.out.size
        clear hcs hR
        by_cases hs : x.length ≤ 5000
        · have hs' : (x.length : Int) ≤ 5000 := by omega
          have HF : Hid (Few (D ++ [x])) := Lib.hid ⟨by rw [List.length_append]; simp; omega, fun y hy => by
            rcases List.mem_append.1 hy with h | h
            · exact hF.out.2 y h
            · obtain rfl : y = x := by simpa using h
              exact hs⟩
          have hD2 : (D ++ [x]).length ≤ 30 := HF.out.1
          clear hs hF hx
          go_wp2_with (at_builtin; refine wpList_append_own _ rfl _ _ 22 rfl w.heap.size 9 i0 (.string ⟨#[]⟩) 1 16 strs_und HI.out.1 HI.out.2.1 HI.out.2.2.1 HI.out.2.2.2 rfl (by decide) _ _ _ rfl (World.ownsRow.alloc hO.out _) ⟨wr.heap.size, 0, none⟩ 1 1 [.string ⟨x.toArray⟩] rfl rfl (by intro j u hj; match j, hj with | 0, hj => simp at hj; subst hj; simp [Addr.add]) (by intro u hu; simp at hu; subst hu; rfl) (by unfold maxLen; omega) (by omega) (by rw [size1]; omega) ?_; intro v' w2 hown' hgrow _)
          have R' := pushs_step hO.out hb.out hsz hown' hgrow
          have R := Lib.hid R'
          clear R' hown' hgrow hO hb
          go_wp2
          go_roundw
          case rel => exact ⟨k + 1, D ++ [x], by omega, by go_num, hD2, HF, Lib.hid R.out.1, Lib.hid R.out.2⟩
          case measure => simp [intOf]; omega
        · have hs' : ¬ (x.length : Int) ≤ 5000 := by omega
          clear hs
          go_wp2
          go_roundw
          case rel => exact ⟨k + 1, D, by omega, by go_num, hD, hF, hO, hb⟩
          case measure => simp [intOf]; omega
      · have h30' : ¬ (D.length : Int) < 30 := by omega
        go_wp2
        go_ret
        exact ⟨_, rfl, D, hF.out, hO.out, hb.out⟩
    · have hlt' : ¬ (k : Int) < (l.length : Int) := by omega
      go_wp2
      go_ret
      exact ⟨_, rfl, D, hF.out, hO.out, hb.out⟩

theorem nm_w : NmOk [119] := ⟨by decide, by decide, fun c hc => by simp at hc; subst hc; decide⟩
theorem nm_log : NmOk [108, 111, 103] := ⟨by decide, by decide, fun c hc => by simp at hc; rcases hc with rfl | rfl | rfl <;> decide⟩
theorem new_wa (w : World) {B : Nat} (ht : Tabs B w) (hB : B ≤ w.heap.size) : Calls Tryz.prog 28 #[] w fun e w' => e = .returned (.pointer (some ⟨w.heap.size, 0, none⟩)) ∧ Wa w w.heap.size w.heap.size Dk.new w' ∧ Below w.heap.size w w' :=
  (new_any w).mono fun e w' ⟨h1, h2, h3⟩ => ⟨h1, Lib.hid ⟨h2, Nat.le_refl _, ⟨h3, Kp.below h3⟩, (ht.up hB).below h3 (Nat.le_refl _)⟩, h3⟩
set_option maxHeartbeats 4000000 in
set_option maxRecDepth 100000 in
theorem lmade_any (w : World) {B : Nat} (ht : Tabs B w) (hB : B ≤ w.heap.size) :
    Calls Tryz.prog 10 #[] w fun e w' => ∃ b K, e = .returned (.tuple #[.pointer (some ⟨w.heap.size, 0, none⟩), .pointer (some ⟨b, 0, none⟩), .bool true]) ∧ Wa w w.heap.size w.heap.size K w' ∧ LogAt w' w.heap.size b w.heap.size ⟨[119], 0, 0⟩ ∧ Lg K [119] 0 [] [] := by
  have N := Lib.hid (new_wa w ht hB)
  have O := Lib.hid (fun (W : World) (d : Nat) (h : Wa w w.heap.size d Dk.new W) => lg_first (nm := [119]) h nm_w)
  clear ht
  go_enter Tryz.func10, Tryz.ntmps10
  go_wp2_with fail
  refine N.out.mono ?_
  rintro e w1 ⟨rfl, x1, b1⟩
  have O1 := Lib.hid (O.out w1 _ x1)
  clear O N x1
  go_wp2_with fail
  refine O1.out.mono ?_
  rintro e w2 ⟨b, v, K, rfl, hb, hv, x2, l2, k2, L2⟩
  clear O1
  go_wp2
  go_ret3
  exact ⟨b, K, rfl, x2, l2, L2⟩
end Go.Proofs.YtpafialojcidnaaGreatDoor
namespace Go.Proofs.YtpafialojcidnaaGreatDoor
open Go.RowKit Go.Maps Dk
open Wl (Lo Lg Tn)
set_option linter.unusedVariables false

namespace Wl
theorem one_of {K : St} {s x : Str} (h : Vw K [(s, x)]) : ∃ f : Fl, K = Dk.one f ∧ f.name = s ∧ f.all = x := by
  obtain ⟨L, room, dead⟩ := K
  obtain ⟨_, h2, h3, h4⟩ := h
  dsimp only at h2 h3 h4
  subst h2 h3
  match L, h4 with
  | [f], h4 =>
    simp only [List.map_cons, List.map_nil, List.cons.injEq, Prod.mk.injEq, and_true] at h4
    exact ⟨f, rfl, h4.1, h4.2⟩
theorem awk {K : St} {nm a b c : Str} (L : Lg K nm 0 [] [a, b]) (hp : Fr.place [a, b] < 4096) (hc : c.length ≤ 65536) : ∃ K2 K3, Dk.sync K (file nm 0) = (K2, 0) ∧ Lg K2 nm 0 [] [a, b] ∧ Wl.appendL K2 ⟨nm, 0, 2⟩ [c] = (K3, ⟨nm, 0, 3⟩, 0) ∧
    ∃ t, Tn (Dk.crash K3 3) nm 0 [] t [] 0 ∧ Fr.all t = [a, b] := by
  have h0 : 0 + tot [] = 0 := by simp [tot]
  obtain ⟨K2, e2, L2⟩ := L.sync
  rw [h0] at e2
  have hv := L2.vw
  rw [List.nil_append, vv_one] at hv
  obtain ⟨f0, k0, n0, x0⟩ := one_of (by have := L.vw; rw [List.nil_append, vv_one] at this; exact this)
  have hbad : bad (file nm 0) = false := file_bad 0 L.nm16
  have e2' := sync_one (f := f0) (by rw [n0]; exact hbad)
  rw [n0, ← k0, e2, x0] at e2'
  have hk2 : K2 = Dk.one ⟨file nm 0, Fr.flat [a, b], []⟩ := congrArg (·.1) e2'
  have hfl : (Fr.flat [a, b]).length < 4096 := by rw [Fr.flat_len]; exact hp
  have hb2 : bad (Fl.mk (file nm 0) (Fr.flat [a, b]) []).name = false := hbad
  have hall : (Fl.mk (file nm 0) (Fr.flat [a, b]) []).all = Fr.flat [a, b] := by simp [Fl.all]
  have ea := append_two (f := ⟨file nm 0, Fr.flat [a, b], []⟩) (t := Fr.frame c) hb2 (by rw [hall, Fr.frame_len]; omega)
  have es := size_one (f := ⟨file nm 0, Fr.flat [a, b], []⟩) hb2
  rw [hall] at es
  dsimp only at ea es
  rw [← hk2] at ea es
  rw [List.nil_append] at ea
  refine ⟨K2, Dk.one ⟨file nm 0, Fr.flat [a, b], Fr.frame c⟩, e2, L2, ?_, Fr.flat [a, b] ++ (Fr.frame c).take 3, ?_⟩
  · rw [appendL_one hc]
    have hpl : place1 K2 ⟨nm, 0, 2⟩ = (K2, 0, 0) := by
      unfold place1
      dsimp only
      rw [es]
      dsimp only
      rw [if_neg (by decide), if_pos hfl]
    unfold lay1
    rw [if_neg (by omega), hpl]
    dsimp only
    rw [if_neg (by decide), ea]
    rfl
  · have hsm : ∀ x ∈ [a, b, c], x.length ≤ 65536 := fun x hx => by
      rcases List.mem_cons.1 hx with rfl | hx
      · exact L.small [x, b] (by simp) x (by simp)
      · rcases List.mem_cons.1 hx with rfl | hx
        · exact L.small [a, x] (by simp) x (by simp)
        · rw [List.mem_singleton] at hx; rw [hx]; exact hc
    have hfc := Fr.frame_len c
    have e3 : (Fr.flat [a, b, c]).take (Fr.place [a, b] + 3) = Fr.flat [a, b] ++ (Fr.frame c).take 3 := by
      rw [show Fr.flat [a, b, c] = Fr.flat [a, b] ++ Fr.frame c by simp [Fr.flat], List.take_append, Fr.flat_len, List.take_of_length_le (by rw [Fr.flat_len]; omega), Nat.add_sub_cancel_left]
    have hcut : Fr.all (Fr.flat [a, b] ++ (Fr.frame c).take 3) = [a, b] := by
      have := Fr.all_cut [a, b, c] (Fr.place [a, b] + 3) 2 hsm (by simp) (by show Fr.place [a, b] ≤ _; omega) (fun _ => by
        show _ < Fr.place [a, b, c]
        rw [show [a, b, c] = [a, b] ++ [c] from rfl, Fr.place_snoc]; omega)
      rw [e3] at this
      exact this
    refine ⟨⟨⟨?_, rfl, rfl, ?_⟩, L.nm16, fun s hs => (by cases hs), fun s hs => (by cases hs), ?_, ?_, ?_, ?_, by simp [tot], by decide⟩, hcut⟩
    · refine ok_crash ?_ 3
      have := ok_append L2.vw.ok (file nm 0) (Fr.frame c)
      rw [ea] at this
      exact this
    · show [(file nm 0, _)] = [] ++ (file nm (0 + tot []), _) :: []
      rw [h0]
      simp [Fl.all, kept]
    · rw [hcut]; exact fun x hx => hsm x (by rcases List.mem_cons.1 hx with rfl | hx; · simp
                                             · rw [List.mem_singleton] at hx; rw [hx]; simp)
    · rw [hcut, List.length_append, Fr.flat_len, List.length_take, hfc]; omega
    · rw [hcut, ← Fr.flat_len, List.take_left' rfl]
    · rw [hcut]; simp [tot]
theorem two_small {K : St} {nm a b : Str} (L : Lg K nm 0 [] []) (ha : a.length ≤ 1000) (hb : b.length ≤ 1000) : ∃ K', Wl.appendL K ⟨nm, 0, 0⟩ [a, b] = (K', ⟨nm, 0, 2⟩, 0) ∧ Lg K' nm 0 [] [a, b] := by
  have t0 : tot [] = 0 := by simp [tot]
  obtain ⟨K1, I1, R1, e1, L1, _, _, _, _, h1⟩ := L.lay (r := a) (by omega) (by simp [t0]) (.inl (by decide))
  rcases h1 with ⟨_, rfl, rfl⟩ | ⟨h, _⟩
  · obtain ⟨K2, I2, R2, e2, L2, _, _, _, _, h2⟩ := L1.lay (r := b) (by omega) (by simp [t0]) (.inl (by decide))
    rcases h2 with ⟨_, rfl, rfl⟩ | ⟨h, _⟩
    · refine ⟨K2, ?_, L2⟩
      unfold Wl.appendL
      rw [if_neg (by simp; omega), Wl.lays]
      simp only [t0, Nat.add_zero, List.length_nil] at e1
      rw [e1]
      dsimp only
      rw [if_neg (by decide), Wl.lays]
      simp only [t0, Nat.add_zero] at e2
      rw [e2]
      rfl
    · simp [Fr.place] at h
      omega
  · simp [Fr.place] at h
end Wl

theorem owns_reads {W : World} {B n cap : Nat} {A : Option Addr} {l : List Str} (h : OwnS W B (.slice A n cap) l) : Reads W W.heap.size A (strings l) := by
  obtain ⟨A', cap', e, hr⟩ := owns_at h
  cases e
  exact hr
/-- a row of texts that lies whole -/
theorem row_reads {W : World} {B d i : Nat} {l : List Str} (hb : W.heap[i]? = some (.cells (strings l).toArray 9 (0, 0))) : ∀ W' K', Wa W B d K' W' → Reads W' W'.heap.size (some ⟨i, 0, none⟩) (strings l) := fun W' K' h _ => by
  have hx := h.held (j := 0) hb rfl
  exact ⟨i, 0, rfl, heap_lt hx, fun k v hk => by rw [cellAt hx]; simpa using hk⟩

set_option maxHeartbeats 16000000 in
set_option maxRecDepth 100000 in
theorem awake_any (w : World) {B : Nat} (ht : Tabs B w) (hB : B ≤ w.heap.size) : Calls Tryz.prog 18 #[] w fun e w' => e = .returned (.bool true) ∧ Below w.heap.size w w' := by
  have N := Lib.hid (new_wa w ht hB)
  have O := Lib.hid (fun (W : World) (d : Nat) (h : Wa w w.heap.size d Dk.new W) => lg_first (nm := [108, 111, 103]) h nm_log)
  obtain ⟨la, hla⟩ : ∃ la : Str, la = [97] := ⟨_, rfl⟩
  obtain ⟨lb, hlb⟩ : ∃ lb : Str, lb = [98] := ⟨_, rfl⟩
  obtain ⟨lc, hlc⟩ : ∃ lc : Str, lc = [99] := ⟨_, rfl⟩
  clear ht
  go_enter Tryz.func18, Tryz.ntmps18
  go_wp2_with fail
  refine N.out.mono ?_
  rintro e w1 ⟨rfl, x1, b1⟩
  have O1 := Lib.hid (O.out w1 _ x1)
  clear O N x1
  go_wp2_with fail
  refine O1.out.mono ?_
  rintro e w2 ⟨b, v, K, rfl, hb, hv, x2, l2, k2, L2⟩
  clear O1
  obtain ⟨A, cap, rfl⟩ := owns_len hv
  have t0 : Wl.tot [] = 0 := by simp [Wl.tot]
  -- two records
  obtain ⟨K3, e3, L3⟩ := Wl.two_small (a := [97]) (b := [98]) L2 (by decide) (by decide)
  have hrow := at1 w2 (.cells #[.string ⟨#[97]⟩, .string ⟨#[98]⟩] 9)
  have bel := bel1 w2 (.cells #[.string ⟨#[97]⟩, .string ⟨#[98]⟩] 9)
  have A1 := lappend_any (x2.below bel) (l2.below bel) (by decide) (Nat.zero_le _) (Nat.zero_le _) (some ⟨w2.heap.size, 0, none⟩) 2 [[97], [98]] (by decide) (by decide) (row_reads (l := [[97], [98]]) hrow)
  rw [e3] at A1
  have HA1 := Lib.hid A1
  clear A1 hrow bel hv x2 l2 k2 e3 L2
  go_wp2_with fail
  refine HA1.out.mono ?_
  rintro e w4 ⟨rfl, x4, l4⟩
  clear HA1
  -- made sure
  obtain ⟨K5, K6, e5, L5, e6, t, T7, hall⟩ := Wl.awk (c := [99]) L3 (by decide) (by decide)
  have S1 := Lib.hid (lsync_any x4 l4 (by decide) (Nat.zero_le _) e5)
  clear e5 L3
  go_wp2_with fail
  refine S1.out.mono ?_
  rintro e w5 ⟨rfl, x5, k5⟩
  have l5 := l4.kp k5
  clear S1 l4 x4 k5
  -- one more
  have hrow := at1 w5 (.cells #[.string ⟨#[99]⟩] 9)
  have bel := bel1 w5 (.cells #[.string ⟨#[99]⟩] 9)
  have A1 := lappend_any (x5.below bel) (l5.below bel) (by decide) (Nat.zero_le _) (by decide) (some ⟨w5.heap.size, 0, none⟩) 1 [[99]] (by decide) (by decide) (row_reads (l := [[99]]) hrow)
  rw [e6] at A1
  have HA1 := Lib.hid A1
  clear A1 hrow bel x5 l5 e6 L5
  go_wp2_with fail
  refine HA1.out.mono ?_
  rintro e w6 ⟨rfl, x6, l6⟩
  clear HA1
  -- a crash
  have C1 : Hid (Calls Tryz.prog 40 #[.pointer (some ⟨w.heap.size, 0, none⟩), .int .i64 3] w6 fun e w' => e = .returned (.tuple #[]) ∧ Wa w w.heap.size w.heap.size (Dk.crash K6 3) w') := Lib.hid ((at_crash x6.at_ rfl (by decide)).mono fun e w' ⟨y1, y2⟩ => ⟨y1, x6.via y2⟩)
  clear x6 l6
  go_wp2_with fail
  refine C1.out.mono ?_
  rintro e w7 ⟨rfl, x7⟩
  -- opened again
  have O2 := Lib.hid (tn_open x7 nm_log T7)
  rw [hall] at O2
  clear C1 x7 T7
  go_wp2_with fail
  refine O2.out.mono ?_
  rintro e w8 ⟨b8, v8, K8, rfl, hb8, hv8, x8, l8, k8, L8⟩
  obtain ⟨A8, cap8, rfl⟩ := owns_len hv8
  clear O2
  have hrow := at1 w8 (.cells #[.string ⟨#[97]⟩, .string ⟨#[98]⟩] 9)
  have bel := bel1 w8 (.cells #[.string ⟨#[97]⟩, .string ⟨#[98]⟩] 9)
  have hv8' : OwnS w8 w7.heap.size (.slice A8 2 cap8) [[97], [98]] := hv8
  have SA := Lib.hid (same_any A8 cap8 (some ⟨w8.heap.size, 0, none⟩) 2 [[97], [98]] _ _ _ (by decide) (owns_reads (owns_below hv8' bel)) (by
    intro _
    exact ⟨w8.heap.size, 0, rfl, heap_lt hrow, fun k v hk => by rw [cellAt hrow]; simpa [strings] using hk⟩))
  have x9 := x8.below bel
  have l9 := l8.below bel
  rw [t0] at l9
  clear hrow hv8 hv8' x8 l8
  go_wp2_with fail
  refine SA.out.mono ?_
  rintro e w9 ⟨rfl, b9⟩
  have x10 := x9.below b9
  have l10 := l9.below b9
  have NX := Lib.hid (next_any w9 l10)
  have hns := L8.ns
  rw [List.nil_append, Wl.firsts_one] at hns
  have FS := Lib.hid (first_some w9 l10 x10.dsk (by decide) hns)
  clear SA x9 l9 l10 hns
  go_wp2_with fail
  refine NX.out.mono ?_
  rintro e w10 ⟨rfl, rfl⟩
  go_wp2_with fail
  refine FS.out.mono ?_
  rintro e w11 ⟨rfl, b11⟩
  go_wp2
  go_ret
  exact ⟨rfl, (x10.below b11).bel⟩
theorem Reads.front {w : World} {B : Nat} {A : Option Addr} {l : List Str} (h : Reads w B A (strings l)) (k : Nat) : Reads w B A (strings (l.take k)) := fun h0 => by
  obtain ⟨b, off, rfl, hb, hc⟩ := h (by simp [strings] at h0 ⊢; omega)
  refine ⟨b, off, rfl, hb, fun i v hv => hc i v ?_⟩
  unfold strings at hv ⊢
  rw [List.map_take] at hv
  rw [List.getElem?_take] at hv
  split at hv
  · exact hv
  · cases hv
theorem Reads.rest {w : World} {B : Nat} {A : Option Addr} {l : List Str} (h : Reads w B A (strings l)) (k : Nat) : Reads w B (A.map fun x => x.add k) (strings (l.drop k)) := fun h0 => by
  obtain ⟨b, off, rfl, hb, hc⟩ := h (by simp [strings] at h0 ⊢; omega)
  refine ⟨b, off + k, ?_, hb, fun i v hv => ?_⟩
  · show some ((⟨b, off, none⟩ : Addr).add k) = _
    rw [Addr.add_lit]
  · unfold strings at hv hc
    rw [List.map_drop, List.getElem?_drop] at hv
    have := hc (k + i) v hv
    rwa [← Nat.add_assoc] at this
theorem Reads.none {w : World} {B : Nat} {A : Option Addr} {l : List Str} (k : Nat) (hk : l.length ≤ k) : Reads w B A (strings (l.drop k)) := fun h0 => by
  rw [List.drop_eq_nil_of_le hk] at h0
  simp [strings] at h0
theorem recs_all {K : St} {nm : Str} {n0 : Nat} {I : List (List Str)} {R : List Str} (h : Lg K nm n0 I R) : recsOf K nm (Wl.firsts n0 (I ++ [R])) = (I ++ [R]).flatten := by
  unfold recsOf
  rw [h.all]


/-! ### a log that is whole, in memory -/
section
variable {w W : World} {B b d : Nat} {nm : Str} {K : St} {n0 : Nat} {I : List (List Str)} {R : List Str}
theorem lg_append (h : Wa w B d K W) (hl : LogAt W B b d ⟨nm, n0 + Wl.tot I, n0 + Wl.tot I + R.length⟩) (L : Lg K nm n0 I R) (A : Option Addr) (cap n : Nat) (rs : List Str) (hn : n = rs.length) (hr : ∀ r ∈ rs, r.length ≤ 65536) (ht : n0 + Wl.tot I + R.length + rs.length ≤ 99999999) (hf : I.length + rs.length ≤ 63)
    (hR : ∀ W' K', Wa W B d K' W' → Reads W' W'.heap.size A (strings rs)) :
    Calls Tryz.prog 11 #[.pointer (some ⟨b, 0, none⟩), .slice A n cap] W fun e w' => e = .returned (.int .i64 0) ∧ ∃ K' I' R', Hid (Wa w B d K' w' ∧ LogAt w' B b d ⟨nm, n0 + Wl.tot I', n0 + Wl.tot I' + R'.length⟩ ∧ Lg K' nm n0 I' R' ∧ (I' ++ [R']).flatten = (I ++ [R]).flatten ++ rs ∧ I'.length ≤ I.length + rs.length ∧ (Wl.Bd I R → Wl.Bd I' R')) := by
  subst hn
  obtain ⟨K', I', R', e, L', f, n, bd⟩ := L.appendL hr ht hf
  have A1 := lappend_any h hl L.nm16 (by have := L.top; dsimp only; omega) (by have := L.top; dsimp only; omega) A cap rs (by omega) (fun r hm => by have := hr r hm; omega) hR
  rw [e] at A1
  refine A1.mono ?_
  rintro x w' ⟨rfl, h1, h2⟩
  exact ⟨rfl, K', I', R', Lib.hid ⟨h1, h2, L', f, n, bd⟩⟩
theorem lg_all (h : Wa w B d K W) {g : Lo} (hl : LogAt W B b d g) (hg : g.nm = nm) (L : Lg K nm n0 I R) :
    Calls Tryz.prog 13 #[.pointer (some ⟨b, 0, none⟩)] W fun e w' => ∃ v, e = .returned v ∧ OwnS w' W.heap.size v (I ++ [R]).flatten ∧ Below W.heap.size W w' := by
  subst hg
  have := lall_any W hl h.dsk h.tabs h.size L.nm16 L.ns
  rw [recs_all L] at this
  exact this
theorem lg_firsts (L : Lg K nm n0 I R) : ∃ ms, Wl.firsts n0 (I ++ [R]) = n0 :: ms := by
  cases I with
  | nil => exact ⟨_, rfl⟩
  | cons Q I => exact ⟨_, rfl⟩
theorem lg_first_of (h : Wa w B d K W) {g : Lo} (hl : LogAt W B b d g) (hg : g.nm = nm) (L : Lg K nm n0 I R) :
    Calls Tryz.prog 17 #[.pointer (some ⟨b, 0, none⟩)] W fun e w' => e = .returned (.int .i64 (n0 : Int)) ∧ Below W.heap.size W w' := by
  subst hg
  obtain ⟨ms, hm⟩ := lg_firsts L
  exact first_some W hl h.dsk L.nm16 (ns := ms) (by rw [← hm]; exact L.ns)
theorem lg_segs (h : Wa w B d K W) {g : Lo} (hl : LogAt W B b d g) (hg : g.nm = nm) (L : Lg K nm n0 I R) :
    Calls Tryz.prog 19 #[.pointer (some ⟨b, 0, none⟩)] W fun e w' => ∃ v, e = .returned v ∧ Own w' W.heap.size v (nats (Wl.firsts n0 (I ++ [R]))) ∧ Below W.heap.size W w' := by
  subst hg
  exact segments_any W hl h.dsk L.nm16 L.ns
end
end Go.Proofs.YtpafialojcidnaaGreatDoor
