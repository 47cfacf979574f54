/- Open, of a log that is whole, and of one that is torn; the law's same, few, made. -/
import Derived.Test.YtpafialojcidnaaGreatDoorWlDrop
import Derived.Test.YtpafialojcidnaaGreatDoorWlApp
import Derived.Test.YtpafialojcidnaaGreatDoorWlPure3
namespace Go.Proofs.YtpafialojcidnaaGreatDoor
open Go.RowKit Go.Maps Dk
open Wl (Lo Lg Tn)
set_option linter.unusedVariables false

/-- a log can have this name -/
structure NmOk (nm : Str) : Prop where
  one : 1 ≤ nm.length
  most : nm.length ≤ 16
  lets : ∀ c ∈ nm, c.toNat < 128 ∧ c ∈ lets

theorem lg_open {w W : World} {B d : Nat} {nm : Str} {K K1 : St} {n0 : Nat} {I : List (List Str)} {R : List Str} (h : Wa w B d K W) (hn : NmOk nm) (hb : Begin nm K K1 (Wl.firsts n0 (I ++ [R]))) (L : Lg K1 nm n0 I R) :
    Calls Tryz.prog 15 #[.pointer (some ⟨d, 0, none⟩), .string ⟨nm.toArray⟩] W fun x w' => ∃ b v K', x = .returned (.tuple #[.pointer (some ⟨b, 0, none⟩), v, .int .i64 0]) ∧ W.heap.size ≤ b ∧ OwnS w' W.heap.size v (I ++ [R]).flatten ∧ Wa w B d K' w' ∧ LogAt w' B b d ⟨nm, n0 + Wl.tot I, n0 + Wl.tot I + R.length⟩ ∧ Kp isRef W w' ∧ Lg K' nm n0 I R := by
  obtain ⟨K3, e3, L3⟩ := L.cut
  obtain ⟨K4, e4, L4⟩ := L3.sync
  have hlen : (Wl.firsts n0 (I ++ [R])).length = I.length + 1 := by rw [Wl.firsts_len, List.length_append]; rfl
  have hne : 0 < (Wl.firsts n0 (I ++ [R])).length := by omega
  have h0 : (Wl.firsts n0 (I ++ [R]))[0] = n0 := by
    have := Wl.firsts_at (I ++ [R]) n0 0 (by rw [List.length_append]; simp)
    have := (List.getElem?_eq_some_iff.1 this).2
    simpa [Wl.tot] using this
  have htop := L.top
  refine (lopen_any h hn.one hn.most hn.lets hb L.ns hne (R := ⟨(I ++ [R]).flatten, I.length + 1, Fr.place R, n0 + Wl.tot I, n0 + Wl.tot I + R.length⟩) (by rw [h0]; exact L.rd) (by dsimp only; omega) (by dsimp only; omega) L.place_small (K2 := K1) (by dsimp only; rw [List.drop_eq_nil_of_le (by omega)]; rfl) e3 e4).mono ?_
  rintro x w' ⟨b, v, rfl, h1, h2, h3, h4, h5⟩
  exact ⟨b, v, K4, rfl, h1, h2, h3, h4, h5, L4⟩
theorem lg_again {w W : World} {B d : Nat} {nm : Str} {K : St} {n0 : Nat} {I : List (List Str)} {R : List Str} (h : Wa w B d K W) (hn : NmOk nm) (L : Lg K nm n0 I R) :
    Calls Tryz.prog 15 #[.pointer (some ⟨d, 0, none⟩), .string ⟨nm.toArray⟩] W fun x w' => ∃ b v K', x = .returned (.tuple #[.pointer (some ⟨b, 0, none⟩), v, .int .i64 0]) ∧ W.heap.size ≤ b ∧ OwnS w' W.heap.size v (I ++ [R]).flatten ∧ Wa w B d K' w' ∧ LogAt w' B b d ⟨nm, n0 + Wl.tot I, n0 + Wl.tot I + R.length⟩ ∧ Kp isRef W w' ∧ Lg K' nm n0 I R :=
  lg_open h hn (.inl ⟨L.ns, by rw [Wl.firsts_len, List.length_append]; simp, rfl⟩) L
theorem lg_first {w W : World} {B d : Nat} {nm : Str} (h : Wa w B d Dk.new W) (hn : NmOk nm) :
    Calls Tryz.prog 15 #[.pointer (some ⟨d, 0, none⟩), .string ⟨nm.toArray⟩] W fun x w' => ∃ b v K', x = .returned (.tuple #[.pointer (some ⟨b, 0, none⟩), v, .int .i64 0]) ∧ W.heap.size ≤ b ∧ OwnS w' W.heap.size v [] ∧ Wa w B d K' w' ∧ LogAt w' B b d ⟨nm, 0, 0⟩ ∧ Kp isRef W w' ∧ Lg K' nm 0 [] [] := by
  obtain ⟨K1, e1, L1⟩ := Wl.lg_new hn.most
  exact lg_open (n0 := 0) (I := []) (R := []) h hn (.inr ⟨⟨rfl, fun _ h => (by cases h)⟩, e1, rfl⟩) L1

/-! ### a torn one -/
theorem tn_ns {K : St} {nm : Str} {n0 m : Nat} {A B : List (List Str)} {t : Str} (h : Tn K nm n0 A t B m) : Ns nm K (Wl.firsts n0 A ++ (n0 + Wl.tot A) :: Wl.firsts m B) := by
  have h1 := h.top
  have h2 := h.topm
  refine ⟨?_, fun n hn => ?_⟩
  · rw [h.vw.names, List.map_append, List.map_append, List.map_cons, List.map_cons, Wl.vv, Wl.vv, Wl.firsts, Wl.firsts, List.map_map, List.map_map, List.map_map, List.map_map]; rfl
  · rcases List.mem_append.1 hn with hn | hn
    · obtain ⟨j, hj⟩ := List.getElem?_of_mem hn
      have := Wl.firsts_le hj
      omega
    · rcases List.mem_cons.1 hn with rfl | hn
      · omega
      · obtain ⟨j, hj⟩ := List.getElem?_of_mem hn
        have := Wl.firsts_le hj
        omega
theorem tn_open {w W : World} {B0 d : Nat} {nm : Str} {K : St} {n0 m : Nat} {A B : List (List Str)} {t : Str} (h : Wa w B0 d K W) (hn : NmOk nm) (T : Tn K nm n0 A t B m) :
    Calls Tryz.prog 15 #[.pointer (some ⟨d, 0, none⟩), .string ⟨nm.toArray⟩] W fun x w' => ∃ b v K', x = .returned (.tuple #[.pointer (some ⟨b, 0, none⟩), v, .int .i64 0]) ∧ W.heap.size ≤ b ∧ OwnS w' W.heap.size v (A.flatten ++ Fr.all t) ∧ Wa w B0 d K' w' ∧ LogAt w' B0 b d ⟨nm, n0 + Wl.tot A, n0 + Wl.tot A + (Fr.all t).length⟩ ∧ Kp isRef W w' ∧ Lg K' nm n0 A (Fr.all t) := by
  obtain ⟨K2, K3, K4, r2, e3, e4, L4⟩ := T.mend
  have htop := T.top
  have hne : 0 < (Wl.firsts n0 A ++ (n0 + Wl.tot A) :: Wl.firsts m B).length := by rw [List.length_append, List.length_cons]; omega
  have h0 : (Wl.firsts n0 A ++ (n0 + Wl.tot A) :: Wl.firsts m B)[0] = n0 := by
    cases A with
    | nil => simp [Wl.firsts, Wl.sg, Wl.tot]
    | cons Q A => simp [Wl.firsts_cons]
  have hd : (Wl.firsts n0 A ++ (n0 + Wl.tot A) :: Wl.firsts m B).drop (A.length + 1) = Wl.firsts m B := by
    rw [show Wl.firsts n0 A ++ (n0 + Wl.tot A) :: Wl.firsts m B = (Wl.firsts n0 A ++ [n0 + Wl.tot A]) ++ Wl.firsts m B by simp]
    exact List.drop_left' (by rw [List.length_append, Wl.firsts_len]; rfl)
  refine (lopen_any h hn.one hn.most hn.lets (.inl ⟨tn_ns T, hne, rfl⟩) (tn_ns T) hne (R := ⟨A.flatten ++ Fr.all t, A.length + 1, Fr.place (Fr.all t), n0 + Wl.tot A, n0 + Wl.tot A + (Fr.all t).length⟩) (by rw [h0]; exact T.rd) (by dsimp only; rw [List.length_append, Wl.firsts_len, List.length_cons]; omega) (by dsimp only; omega) L4.place_small (K2 := K2) (by dsimp only; rw [hd]; exact r2) e3 e4).mono ?_
  rintro x w' ⟨b, v, rfl, h1, h2, h3, h4, h5⟩
  exact ⟨b, v, K4, rfl, h1, h2, h3, h4, h5, L4⟩

/-! ### the law's own -/
set_option maxHeartbeats 1000000 in
set_option maxRecDepth 100000 in
theorem same_any (A : Option Addr) (cap : Nat) (A2 : Option Addr) (cap2 : Nat) (l : List (List UInt8)) (w : World) (B B2 : Nat) (hl : l.length ≤ 140737488351232) (hr : Reads w B A (strings l)) (hr2 : Reads w B2 A2 (strings l)) :
    Calls Tryz.prog 12 #[.slice A l.length cap, .slice A2 l.length cap2] w fun e w' => e = .returned (.bool true) ∧ Below w.heap.size w w' := by
  have hne : ((l.length : Int) != (l.length : Int)) = false := by simp
  have b0 := Lib.hid (Below.refl w.heap.size w)
  go_enter Tryz.func12, Tryz.ntmps12
  go_wp2
  go_loopw [5] (fun i wr => ∃ k : Nat, k ≤ l.length ∧ i = .int .i64 k ∧ Hid (Below w.heap.size w wr) ∧ Hid (Reads wr B A (strings l)) ∧ Hid (Reads wr B2 A2 (strings l))) (fun i _ => l.length - (intOf i).toNat)
  case atStart => exact ⟨0, Nat.zero_le _, rfl, b0, Lib.hid hr, Lib.hid hr2⟩
  case round =>
    obtain ⟨k, hk, rfl, hbel, r1, r2⟩ := hrel
    clear b0 hr hr2
    by_cases hlt : k < l.length
    · obtain ⟨x, hx⟩ : ∃ x, x = l[k] := ⟨_, rfl⟩
      obtain ⟨b, off, rfl, hbB, hc⟩ := r1.out.at_ (k := k) (by simpa [strings] using hlt)
      obtain ⟨b2, off2, rfl, hbB2, hc2⟩ := r2.out.at_ (k := k) (by simpa [strings] using hlt)
      have k1 : wr.cell? ⟨b, off + k, none⟩ = some (.string ⟨x.toArray⟩) := by rw [hc, hx]; simp [strings]
      have k2 : wr.cell? ⟨b2, off2 + k, none⟩ = some (.string ⟨x.toArray⟩) := by rw [hc2, hx]; simp [strings]
      have hlt' : (k : Int) < (l.length : Int) := by omega
      have hxx : (x == x) = true := by simp
      clear hx hc hc2
      go_wp2
      go_quiet (fail)
      have r1' := Lib.hid (show Reads (wr.drewN nq) B (some ⟨b, off, none⟩) (strings l) from r1.out)
      have r2' := Lib.hid (show Reads (wr.drewN nq) B2 (some ⟨b2, off2, none⟩) (strings l) from r2.out)
      have HB := Lib.hid (Below.dn' hbel.out nq)
      clear r1 r2 hbel
      go_wp2
      go_roundw
      case rel => exact ⟨k + 1, by omega, by go_num, HB, r1', r2'⟩
      case measure => simp [intOf]; omega
    · obtain rfl : k = l.length := by omega
      go_wp2
      go_ret
      exact ⟨rfl, hbel.out⟩

/-- texts, neither too many nor too long -/
def Few (D : List Str) : Prop := D.length ≤ 30 ∧ ∀ r ∈ D, r.length ≤ 5000
set_option maxHeartbeats 4000000 in
set_option maxRecDepth 100000 in
theorem few_any (w : World) (A : Option Addr) (cap : Nat) (l : List Str) (hl : l.length ≤ 140737488351232) (hs : ∀ s ∈ l, s.length ≤ 140737488351232) {B : Nat} (hB : B ≤ w.heap.size) (hr : Reads w B A (strings l)) :
    Calls Tryz.prog 9 #[.slice A l.length cap] w fun e w' => ∃ v, e = .returned v ∧ ∃ D, Few D ∧ OwnS w' w.heap.size v D ∧ Below w.heap.size w w' := by
  have HR := Lib.hid hr
  have HS := Lib.hid hs
  clear hr hs
  obtain ⟨i0, hi, hz0, hz1, hz2⟩ := info_parts str_info
  have HI := Lib.hid (And.intro hi (And.intro hz0 (And.intro hz1 hz2)))
  clear hi hz0 hz1 hz2
  go_enter Tryz.func9, Tryz.ntmps9
  go_wp2
  go_loopw [3, 4] (fun u i wr => ∃ (k : Nat) (D : List Str), k ≤ l.length ∧ i = .int .i64 k ∧ D.length ≤ 30 ∧ Hid (Few D) ∧ Hid (OwnS wr w.heap.size u D) ∧ Hid (Below w.heap.size w wr)) (fun _ i _ => l.length - (intOf i).toNat)
  case atStart => exact ⟨0, [], Nat.zero_le _, rfl, by simp, Lib.hid ⟨by simp, fun x hx => by cases hx⟩, Lib.hid (owns_nil _ _), Lib.hid (Below.refl _ _)⟩
  case round =>
    obtain ⟨k, D, hk, rfl, hD, hF, hO, hb⟩ := hrel
    obtain ⟨A', c', rfl⟩ := owns_len hO.out
    by_cases hlt : k < l.length
    · have hlt' : (k : Int) < (l.length : Int) := by omega
      by_cases h30 : D.length < 30
      · have h30' : (D.length : Int) < 30 := by omega
        have hR := HR.out.below (hb.out.mono hB)
        obtain ⟨b, off, rfl, hbB, hcs⟩ := hR.at_ (k := k) (by simpa [strings] using hlt)
        have hc : wr.cell? ⟨b, off + k, none⟩ = some (.string ⟨(l[k] : Str).toArray⟩) := by rw [hcs]; simp [strings]
        have hx := HS.out _ (List.getElem_mem hlt)
        generalize (l[k] : Str) = x at *
        have hsz := hb.out.size
        clear hcs hR
        by_cases hs : x.length ≤ 5000
        · have hs' : (x.length : Int) ≤ 5000 := by omega
          have HF : Hid (Few (D ++ [x])) := Lib.hid ⟨by rw [List.length_append]; simp; omega, fun y hy => by
            rcases List.mem_append.1 hy with h | h
            · exact hF.out.2 y h
            · obtain rfl : y = x := by simpa using h
              exact hs⟩
          have hD2 : (D ++ [x]).length ≤ 30 := HF.out.1
          clear hs hF hx
          go_wp2_with (at_builtin; refine wpList_append_own _ rfl _ _ 22 rfl w.heap.size 9 i0 (.string ⟨#[]⟩) 1 16 strs_und HI.out.1 HI.out.2.1 HI.out.2.2.1 HI.out.2.2.2 rfl (by decide) _ _ _ rfl (World.ownsRow.alloc hO.out _) ⟨wr.heap.size, 0, none⟩ 1 1 [.string ⟨x.toArray⟩] rfl rfl (by intro j u hj; match j, hj with | 0, hj => simp at hj; subst hj; simp [Addr.add]) (by intro u hu; simp at hu; subst hu; rfl) (by unfold maxLen; omega) (by omega) (by rw [size1]; omega) ?_; intro v' w2 hown' hgrow _)
          have R' := pushs_step hO.out hb.out hsz hown' hgrow
          have R := Lib.hid R'
          clear R' hown' hgrow hO hb
          go_wp2
          go_roundw
          case rel => exact ⟨k + 1, D ++ [x], by omega, by go_num, hD2, HF, Lib.hid R.out.1, Lib.hid R.out.2⟩
          case measure => simp [intOf]; omega
        · have hs' : ¬ (x.length : Int) ≤ 5000 := by omega
          clear hs
          go_wp2
          go_roundw
          case rel => exact ⟨k + 1, D, by omega, by go_num, hD, hF, hO, hb⟩
          case measure => simp [intOf]; omega
      · have h30' : ¬ (D.length : Int) < 30 := by omega
        go_wp2
        go_ret
        exact ⟨_, rfl, D, hF.out, hO.out, hb.out⟩
    · have hlt' : ¬ (k : Int) < (l.length : Int) := by omega
      go_wp2
      go_ret
      exact ⟨_, rfl, D, hF.out, hO.out, hb.out⟩

theorem nm_w : NmOk [119] := ⟨by decide, by decide, fun c hc => by simp at hc; subst hc; decide⟩
theorem nm_log : NmOk [108, 111, 103] := ⟨by decide, by decide, fun c hc => by simp at hc; rcases hc with rfl | rfl | rfl <;> decide⟩
theorem new_wa (w : World) {B : Nat} (ht : Tabs B w) (hB : B ≤ w.heap.size) : Calls Tryz.prog 28 #[] w fun e w' => e = .returned (.pointer (some ⟨w.heap.size, 0, none⟩)) ∧ Wa w w.heap.size w.heap.size Dk.new w' ∧ Below w.heap.size w w' :=
  (new_any w).mono fun e w' ⟨h1, h2, h3⟩ => ⟨h1, Lib.hid ⟨h2, Nat.le_refl _, ⟨h3, Kp.below h3⟩, (ht.up hB).below h3 (Nat.le_refl _)⟩, h3⟩
set_option maxHeartbeats 4000000 in
set_option maxRecDepth 100000 in
theorem lmade_any (w : World) {B : Nat} (ht : Tabs B w) (hB : B ≤ w.heap.size) :
    Calls Tryz.prog 10 #[] w fun e w' => ∃ b K, e = .returned (.tuple #[.pointer (some ⟨w.heap.size, 0, none⟩), .pointer (some ⟨b, 0, none⟩), .bool true]) ∧ Wa w w.heap.size w.heap.size K w' ∧ LogAt w' w.heap.size b w.heap.size ⟨[119], 0, 0⟩ ∧ Lg K [119] 0 [] [] := by
  have N := Lib.hid (new_wa w ht hB)
  have O := Lib.hid (fun (W : World) (d : Nat) (h : Wa w w.heap.size d Dk.new W) => lg_first (nm := [119]) h nm_w)
  clear ht
  go_enter Tryz.func10, Tryz.ntmps10
  go_wp2_with fail
  refine N.out.mono ?_
  rintro e w1 ⟨rfl, x1, b1⟩
  have O1 := Lib.hid (O.out w1 _ x1)
  clear O N x1
  go_wp2_with fail
  refine O1.out.mono ?_
  rintro e w2 ⟨b, v, K, rfl, hb, hv, x2, l2, k2, L2⟩
  clear O1
  go_wp2
  go_ret3
  exact ⟨b, K, rfl, x2, l2, L2⟩
end Go.Proofs.YtpafialojcidnaaGreatDoor
