/- The law WalTorn, walked. -/
import Derived.Test.YtpafialojcidnaaGreatDoorWlRefFile
import Derived.Test.YtpafialojcidnaaGreatDoorFrRef
import Derived.Test.YtpafialojcidnaaGreatDoorFrTurn
namespace Go.Proofs.YtpafialojcidnaaGreatDoor
open Go.RowKit Go.Maps Dk
open Wl (Lo Lg Tn)
set_option linter.unusedVariables false

/-! ### a turned frame among others -/
theorem first_more {r : Str} (h : Fr.first r = (3, [])) (q : Str) : Fr.first (r ++ q) = (3, []) := by
  have hc := Fr.first_cases r
  rw [h] at hc
  rcases hc with ⟨_, e⟩ | ⟨_, _, e⟩ | ⟨_, _, _, e⟩ | ⟨h1, h2, h3, _⟩ | ⟨_, _, _, e⟩
  · simp at e
  · simp at e
  · simp at e
  · have hn : Fr.num (r ++ q) = Fr.num r := by
      unfold Fr.num
      rw [List.take_append_of_le_length (by omega)]
    refine Fr.first_sum (by omega) (by rw [hn, List.length_append]; omega) ?_
    rw [hn, List.take_append_of_le_length (by omega), List.drop_append_of_le_length (by omega), List.take_append_of_le_length (by rw [List.length_drop]; omega)]
    exact h3
  · simp at e
theorem all_ahead : ∀ (P : List Str) (y : Str), (∀ x ∈ P, x.length ≤ 65536) → Fr.all (Fr.flat P ++ y) = P ++ Fr.all y
  | [], y, _ => rfl
  | x :: P, y, h => by
    have hx := h x (List.mem_cons_self ..)
    have e : Fr.flat (x :: P) ++ y = Fr.frame x ++ (Fr.flat P ++ y) := by simp [Fr.flat]
    have hf := Fr.first_frame x (Fr.flat P ++ y) hx
    rw [e, Fr.all_step (by rw [hf]), hf]
    dsimp only
    rw [List.drop_left' (Fr.frame_len x), all_ahead P y fun z hz => h z (List.mem_cons_of_mem _ hz)]
    rfl
theorem torn_one {r : Str} {o : Nat} {m v : UInt8} (hr : r.length ≤ 65536) (ho : o < r.length + 4) (hm : m ≠ 0) (hv : (Fr.frame r)[3 + o]? = some v) : Fr.first ((Fr.frame r).set (3 + o) (v ^^^ m)) = (3, []) := by
  have e := turn_next r o [m] 0 (by simp) (by omega) v (by simpa using hv)
  rw [List.take_zero, turn_zero] at e
  have e : Fr.turn r o [m] = (Fr.frame r).set (3 + o) (v ^^^ m) := e
  rw [← e]
  have hn : ([m] : Str).all (· == 0) = false := by simp [hm]
  by_cases hk : o < r.length
  · exact Fr.turn_text r o [m] hk (by simp) (by simp; omega) hn hr
  · exact Fr.turn_sum r o [m] (by omega) (by simp; omega) hn hr
theorem flat_app (P Q : List Str) : Fr.flat (P ++ Q) = Fr.flat P ++ Fr.flat Q := by simp [Fr.flat]
theorem flat_split {Q : List Str} {j : Nat} (hj : j < Q.length) : Fr.flat Q = Fr.flat (Q.take j) ++ (Fr.frame Q[j] ++ Fr.flat (Q.drop (j + 1))) := by
  have e : Q = Q.take j ++ Q[j] :: Q.drop (j + 1) := by rw [← List.drop_eq_getElem_cons hj, List.take_append_drop]
  have h := congrArg Fr.flat e
  rw [flat_app] at h
  exact h.trans (by simp only [Fr.flat, List.flatMap_cons])
theorem torn_is {Q : List Str} {j o : Nat} {m v : UInt8} (hj : j < Q.length) (hs : ∀ x ∈ Q, x.length ≤ 65536) (ho : o < Q[j].length + 4) (hm : m ≠ 0) (hv : (Fr.flat Q)[Fr.place (Q.take j) + 3 + o]? = some v) :
    Fr.all ((Fr.flat Q).set (Fr.place (Q.take j) + 3 + o) (v ^^^ m)) = Q.take j ∧ Fr.place (Q.take j) < (Fr.flat Q).length ∧ ((Fr.flat Q).set (Fr.place (Q.take j) + 3 + o) (v ^^^ m)).take (Fr.place (Q.take j)) = Fr.flat (Q.take j) := by
  have hl := Fr.flat_len (Q.take j)
  have hf := Fr.frame_len Q[j]
  have e := flat_split hj
  have hv' : (Fr.frame Q[j])[3 + o]? = some v := by
    rw [e, ← hl, Nat.add_assoc, List.getElem?_append_right (by omega), Nat.add_sub_cancel_left, List.getElem?_append_left (by omega)] at hv
    exact hv
  have e2 : (Fr.flat Q).set (Fr.place (Q.take j) + 3 + o) (v ^^^ m) = Fr.flat (Q.take j) ++ ((Fr.frame Q[j]).set (3 + o) (v ^^^ m) ++ Fr.flat (Q.drop (j + 1))) := by
    rw [e, ← hl, Nat.add_assoc, List.set_append_right _ _ (by omega), Nat.add_sub_cancel_left, List.set_append_left _ _ (by omega)]
  rw [e2]
  refine ⟨?_, ?_, List.take_left' hl⟩
  · rw [all_ahead _ _ fun x hx => hs x (List.mem_of_mem_take hx), Fr.all_stop, List.append_nil]
    rw [first_more (torn_one (hs _ (List.getElem_mem hj)) ho hm hv')]
    decide
  · rw [e, List.length_append, List.length_append]
    omega
/-- a log, a record of which is torn -/
theorem tn_of {K : St} {I : List (List Str)} {R : List Str} {i j o : Nat} {m v : UInt8} (L : Lg K [119] 0 I R) (hi : i < (I ++ [R]).length) (hj : j < (I ++ [R])[i].length) (ho : o < (I ++ [R])[i][j].length + 4) (hm : m ≠ 0)
    (hv : (Fr.flat (I ++ [R])[i])[Fr.place ((I ++ [R])[i].take j) + 3 + o]? = some v) :
    ∃ K1 K2, Dk.trunc K (Wl.file [119] (0 + Wl.tot ((I ++ [R]).take i))) (0 : Int) = (K1, 0) ∧ Dk.append K1 (Wl.file [119] (0 + Wl.tot ((I ++ [R]).take i))) ((Fr.flat (I ++ [R])[i]).set (Fr.place ((I ++ [R])[i].take j) + 3 + o) (v ^^^ m)) = (K2, 0) ∧
      Tn K2 [119] 0 ((I ++ [R]).take i) ((Fr.flat (I ++ [R])[i]).set (Fr.place ((I ++ [R])[i].take j) + 3 + o) (v ^^^ m)) ((I ++ [R]).drop (i + 1)) (0 + Wl.tot ((I ++ [R]).take i) + (I ++ [R])[i].length) := by
  have hiI : i ≤ I.length := by rw [List.length_append] at hi; simp at hi; omega
  have e : I ++ [R] = (I ++ [R]).take i ++ (I ++ [R])[i] :: (I ++ [R]).drop (i + 1) := by rw [← List.drop_eq_getElem_cons hi, List.take_append_drop]
  have eV : Wl.vv [119] 0 (I ++ [R]) = Wl.vv [119] 0 ((I ++ [R]).take i) ++ (Wl.file [119] (0 + Wl.tot ((I ++ [R]).take i)), Fr.flat (I ++ [R])[i]) :: Wl.vv [119] (0 + Wl.tot ((I ++ [R]).take i) + (I ++ [R])[i].length) ((I ++ [R]).drop (i + 1)) := by
    conv => lhs; rw [e, Wl.vv_append, Wl.vv_cons]
  have hsm : ∀ x ∈ (I ++ [R])[i], x.length ≤ 65536 := L.small _ (List.getElem_mem hi)
  have htop := L.top
  have htot : Wl.tot I + R.length = Wl.tot ((I ++ [R]).take i) + ((I ++ [R])[i].length + Wl.tot ((I ++ [R]).drop (i + 1))) := by
    have h1 := Wl.tot_snoc I R
    rw [e, Wl.tot_append, Wl.tot_cons] at h1
    exact h1.symm
  have hfl : (Fr.flat (I ++ [R])[i]).length ≤ 4194304 := by
    obtain ⟨f, _, hf, hn, ha⟩ := L.vw.at_ eV
    rw [← ha]
    exact L.vw.ok.small f hf
  obtain ⟨K1, e1, V1⟩ := Wl.vw_trunc L.vw eV (n := 0) (Nat.zero_le _)
  rw [List.take_zero] at V1
  generalize hS : I ++ [R] = S at *
  obtain ⟨a1, a2, a3⟩ := torn_is hj hsm ho hm hv
  have hlen : ((Fr.flat S[i]).set (Fr.place (S[i].take j) + 3 + o) (v ^^^ m)).length = (Fr.flat S[i]).length := List.length_set
  obtain ⟨K2, e2, V2⟩ := Wl.vw_append (t := (Fr.flat S[i]).set (Fr.place (S[i].take j) + 3 + o) (v ^^^ m)) V1 rfl (by rw [hlen]; simpa using hfl)
  refine ⟨K1, K2, e1, e2, ?_⟩
  rw [List.nil_append] at V2
  refine ⟨V2, L.nm16, fun s hs => ?_, fun s hs => L.small s ?_, fun x hx => ?_, by rw [a1, hlen]; exact a2, by rw [a1]; exact a3, by rw [a1, List.length_take]; omega, by omega, by rw [List.length_take]; have := L.few; omega⟩
  · rw [← hS, List.take_append_of_le_length hiI] at hs
    exact L.ne s (List.mem_of_mem_take hs)
  · rw [hS]
    exact List.mem_of_mem_take hs
  · rw [a1] at hx
    exact hsm x (List.mem_of_mem_take hx)
/-- what is known of the segment in which a record lies -/
structure Sg (K : St) (D : List Str) (i x0 : Nat) (Q : List Str) : Prop where
  file : Dk.read K (Wl.file [119] x0) = (Fr.flat Q, 0)
  recs : ∀ j (hj : j < Q.length), D[x0 + j]? = some Q[j]
  small : ∀ x ∈ Q, x.length ≤ 65536
  len : (Fr.flat Q).length ≤ 4194304
  torn : ∀ j o (m v : UInt8) (hj : j < Q.length), o < Q[j].length + 4 → m ≠ 0 → (Fr.flat Q)[Fr.place (Q.take j) + 3 + o]? = some v →
    ∃ K1 K2 A t B m', t = (Fr.flat Q).set (Fr.place (Q.take j) + 3 + o) (v ^^^ m) ∧ Dk.trunc K (Wl.file [119] x0) (0 : Int) = (K1, 0) ∧ Dk.append K1 (Wl.file [119] x0) t = (K2, 0) ∧ Tn K2 [119] 0 A t B m' ∧ A.flatten ++ Fr.all t = D.take (x0 + j) ∧ 0 + Wl.tot A + (Fr.all t).length = x0 + j ∧ A.length = i
theorem take_mid (A Q R : List Str) (j : Nat) (hj : j ≤ Q.length) : (A ++ (Q ++ R)).take (A.length + j) = A ++ Q.take j := by
  rw [List.take_length_add_append, List.take_append_of_le_length hj]
theorem sg_is {K : St} {I : List (List Str)} {R D : List Str} (L : Lg K [119] 0 I R) (h : (I ++ [R]).flatten = D) {i : Nat} (hi : i < (I ++ [R]).length) : Sg K D i (Wl.tot ((I ++ [R]).take i)) (I ++ [R])[i] := by
  have e : I ++ [R] = (I ++ [R]).take i ++ (I ++ [R])[i] :: (I ++ [R]).drop (i + 1) := by rw [← List.drop_eq_getElem_cons hi, List.take_append_drop]
  have eD : D = ((I ++ [R]).take i).flatten ++ ((I ++ [R])[i] ++ ((I ++ [R]).drop (i + 1)).flatten) := by
    have h2 := congrArg List.flatten e
    rw [h, List.flatten_append, List.flatten_cons] at h2
    exact h2
  have eV : Wl.vv [119] 0 (I ++ [R]) = Wl.vv [119] 0 ((I ++ [R]).take i) ++ (Wl.file [119] (0 + Wl.tot ((I ++ [R]).take i)), Fr.flat (I ++ [R])[i]) :: Wl.vv [119] (0 + Wl.tot ((I ++ [R]).take i) + (I ++ [R])[i].length) ((I ++ [R]).drop (i + 1)) := by
    conv => lhs; rw [e, Wl.vv_append, Wl.vv_cons]
  have hgot := L.got_of e
  rw [Nat.zero_add] at hgot
  refine ⟨hgot, fun j hj => ?_, fun x hx => L.small _ (List.getElem_mem hi) x hx, ?_, fun j o m v hj ho hm hv => ?_⟩
  · rw [eD, Wl.tot, List.getElem?_append_right (by omega), Nat.add_sub_cancel_left, List.getElem?_append_left hj, List.getElem?_eq_getElem hj]
  · obtain ⟨f, _, hf, hn, ha⟩ := L.vw.at_ eV
    rw [← ha]
    exact L.vw.ok.small f hf
  · obtain ⟨K1, K2, e1, e2, T⟩ := tn_of L hi hj ho hm hv
    rw [Nat.zero_add] at e1 e2
    have hal := (torn_is hj (fun x hx => L.small _ (List.getElem_mem hi) x hx) ho hm hv).1
    refine ⟨K1, K2, _, _, _, _, rfl, e1, e2, T, ?_, ?_, by rw [List.length_take]; omega⟩
    · rw [hal, eD]
      exact (take_mid _ _ _ _ (Nat.le_of_lt hj)).symm
    · rw [hal, List.length_take]
      omega
theorem nums_at {W : World} {B : Nat} {A : Option Addr} {ns : List Nat} (h : Reads W B A (ints (nats ns))) (h0 : 0 < ns.length) : ∃ g off, A = some ⟨g, off, none⟩ ∧ g < B ∧ ∀ i (x : Nat), ns[i]? = some x → W.cell? ⟨g, off + i, none⟩ = some (.int .i64 (x : Int)) := by
  obtain ⟨b, off, rfl, hb, hc⟩ := h (by simp only [ints, nats, List.length_map]; exact h0)
  exact ⟨b, off, rfl, hb, fun i x hx => hc i _ (by simp [ints, nats, hx])⟩
theorem frame_ok (r : Str) (w : World) (h : r.length ≤ 65536) :
    Calls Tryz.prog 21 #[.string ⟨r.toArray⟩] w fun e w' => e = .returned (.tuple #[.string ⟨(Fr.frame r).toArray⟩, .int .i64 0]) ∧ Below w.heap.size w w' := by
  have := rframe_any r w (by omega)
  unfold frameText frameErr at this
  rw [if_neg (by omega), if_neg (by omega)] at this
  exact this
theorem flat_more {Q : List Str} {j : Nat} (hj : j < Q.length) : Fr.flat (Q.take (j + 1)) = Fr.flat (Q.take j) ++ Fr.frame Q[j] := by
  rw [List.take_succ_eq_append_getElem hj, Fr.flat_snoc]
theorem flat_front (Q : List Str) (j : Nat) : (Fr.flat (Q.take j)).length ≤ (Fr.flat Q).length := by
  have h := congrArg (fun l => (Fr.flat l).length) (List.take_append_drop j Q)
  simp only [flat_app, List.length_append] at h
  omega
theorem xor_u8 (v m : UInt8) : bits .xor .u8 (v.toNat : Int) (m.toNat : Int) = ((v ^^^ m).toNat : Int) := by
  have h := u8_xor_nat v.toNat m.toNat (Fr.byte_lt v) (Fr.byte_lt m)
  rw [h, UInt8.toNat_xor]
/-- a number that is brought below another -/
theorem tw_is (a : Int) (n : Nat) (h0 : 0 < n) (hn : n ≤ 1000000) : ∃ (x : Int) (k : Nat), a.tmod (n : Int) = x ∧ (x + n).tmod (n : Int) = (k : Int) ∧ k < n ∧ IntKind.i64.wrap x = x ∧ IntKind.i64.wrap (x + n) = x + n ∧ IntKind.i64.wrap (k : Int) = k := by
  have h1 : (n : Int) ≠ 0 := by omega
  have a1 := Int.tmod_lt_of_pos a (show 0 < (n : Int) by omega)
  have a2 := Int.lt_tmod_of_pos a (show 0 < (n : Int) by omega)
  have b0 : 0 ≤ a.tmod (n : Int) + n := by omega
  have b1 := Int.tmod_eq_emod_of_nonneg (b := (n : Int)) b0
  have b2 := Int.emod_nonneg (a.tmod (n : Int) + n) h1
  have b3 := Int.emod_lt_of_pos (a.tmod (n : Int) + n) (show 0 < (n : Int) by omega)
  exact ⟨_, ((a.tmod (n : Int) + n).tmod (n : Int)).toNat, rfl, by omega, by omega, IntWalk.i64_in _ ⟨by omega, by omega⟩, IntWalk.i64_in _ ⟨by omega, by omega⟩, IntWalk.i64_in _ ⟨by omega, by omega⟩⟩
set_option maxHeartbeats 32000000 in
set_option maxRecDepth 100000 in
theorem law_torn (w : World) (ht : Tabs w.heap.size w) (A : Option Addr) (cap : Nat) (l : List Str) (hlc : l.length ≤ cap) (hcap : cap ≤ 140737488351232) (hl : ∀ s ∈ l, s.length ≤ 140737488351232) (hr : Reads w w.heap.size A (strings l)) (u : Int) (hu : -9223372036854775808 ≤ u ∧ u ≤ 9223372036854775807) (m : UInt8) (_ : True) :
    Calls Tryz.prog 6 #[.slice A l.length cap, .int .i64 u, .int .u8 (m.toNat : Int)] w fun e w' => e = .returned (.bool true) ∧ Below w.heap.size w w' := by
  have F := Lib.hid (few_any w A cap l (by omega) hl (Nat.le_refl _) hr)
  have HT := Lib.hid ht
  have hlt := Fr.byte_lt m
  obtain ⟨mi, hmi⟩ : ∃ mi : Int, (m.toNat : Int) = mi := ⟨_, rfl⟩
  rw [hmi]
  clear ht hr hl hlc
  go_enter Tryz.func6, Tryz.ntmps6
  go_wp2_with fail
  refine F.out.mono ?_
  rintro e w1 ⟨v, rfl, D, hD, hO, b1⟩
  obtain ⟨A1, cap1, rfl⟩ := owns_len hO
  have T1 := HT.out.below b1 (Nat.le_refl _)
  have M := Lib.hid (lmade_any w1 T1 b1.size)
  have HO := Lib.hid hO
  have HD := Lib.hid hD
  have B1 := Lib.hid b1
  have hcap1 : D.length ≤ cap1 := by
    rcases hO.2 with ⟨e, e2⟩ | ⟨g, c2, cur, e, _, _, h1, h2, _⟩
    · simp only [Value.slice.injEq] at e; omega
    · cases e; exact h1
  obtain ⟨dn, hdn⟩ : ∃ dn, D.length = dn := ⟨_, rfl⟩
  have hn : dn ≤ 30 := by rw [← hdn]; exact hD.1
  rw [hdn] at hcap1 ⊢
  clear F T1 hO hD b1
  go_wp2_with fail
  refine M.out.mono ?_
  rintro e w2 ⟨b, K0, rfl, x2, l2, L0⟩
  by_cases hz : dn = 0 ∨ m = 0
  · have AWr := Lib.hid (awake_any w2 x2.tabs x2.size)
    have X2 := Lib.hid x2
    clear M L0 l2 x2
    by_cases hz1 : dn = 0
    · have hq : ((dn : Int) == 0) = true := by simp; omega
      clear hz hz1
      go_wp2_with fail
      refine AWr.out.mono ?_
      rintro e w14 ⟨rfl, b14⟩
      go_wp2
      go_ret
      exact ⟨rfl, B1.out.trans ((X2.out.below b14).bel.mono B1.out.size)⟩
    · have hq : ((dn : Int) == 0) = false := by simp; omega
      have hm : m = 0 := by rcases hz with h | h; exact absurd h hz1; exact h
      have hq2 : (mi == 0) = true := by rw [← hmi, hm]; rfl
      clear hz hz1 hm hmi hlt
      go_wp2_with fail
      refine AWr.out.mono ?_
      rintro e w14 ⟨rfl, b14⟩
      go_wp2
      go_ret
      exact ⟨rfl, B1.out.trans ((X2.out.below b14).bel.mono B1.out.size)⟩
  have hz1 : dn ≠ 0 := fun h => hz (.inl h)
  have hm0 : m ≠ 0 := fun h => hz (.inr h)
  have hq : ((dn : Int) == 0) = false := by simp; omega
  have hq2 : (mi == 0) = false := by
    have h1 : m.toNat ≠ 0 := fun e => hm0 (UInt8.toNat_inj.1 (by rw [e]; rfl))
    rw [← hmi]
    simp
    omega
  clear hz
  have hsm : ∀ r ∈ D, r.length ≤ 65536 := fun r hm => by have := HD.out.2 r hm; omega
  have RD : Hid (∀ (W' : World) (K' : St), Wa w1 w1.heap.size w1.heap.size K' W' → Reads W' W'.heap.size A1 (strings D)) := Lib.hid fun W' K' h => owns_reads (by
    have := HO.out
    rw [hdn] at this
    exact owns_kp this (p := isLog) (fun _ => rfl) h.gone.kp)
  have A2 := Lib.hid (lg_append (n0 := 0) (I := []) (R := []) x2 l2 L0 A1 cap1 dn D hdn.symm hsm (by simp [Wl.tot]; omega) (by simp; omega) (fun W' K' h => RD.out W' K' (x2.trans h)))
  clear M L0 l2 x2 hsm
  go_wp2_with fail
  refine A2.out.mono ?_
  rintro e w3 ⟨rfl, K1, I1, R1, h3⟩
  obtain ⟨x3, l3, L3, f3, n3, bd3⟩ := h3.out
  have f3 : (I1 ++ [R1]).flatten = D := f3
  have hI1 : I1.length ≤ 30 := by simp at n3; omega
  obtain ⟨K2, e2, L4⟩ := L3.sync
  have SY := Lib.hid (lsync_any x3 l3 L3.nm16 (by have := L3.top; dsimp only; omega) e2)
  have HL3 := Lib.hid l3
  have LG4 := Lib.hid L4
  have F3 := Lib.hid f3
  clear A2 h3 x3 l3 L3 f3 n3 bd3 e2 L4
  go_wp2_with fail
  refine SY.out.mono ?_
  rintro e w4 ⟨rfl, x4, k4⟩
  obtain ⟨x, k, u1, u2, hkd, u3, u4, u5⟩ := tw_is u dn (by omega) (by omega)
  have dz : (dn : Int) ≠ 0 := by omega
  have S5 := Lib.hid (lg_segs x4 (HL3.out.kp k4) rfl LG4.out)
  have X4 := Lib.hid x4
  clear SY HL3 x4 k4
  go_wp2_with fail
  refine S5.out.mono ?_
  rintro e w5 ⟨v5, rfl, hO5, b5⟩
  obtain ⟨A5, c5, rfl, r5⟩ := own_at hO5
  have X5 := Lib.hid (X4.out.below b5)
  have hl5 : (nats (Wl.firsts 0 (I1 ++ [R1]))).length = I1.length + 1 := by rw [nats_len, Wl.firsts_len, List.length_append]; rfl
  obtain ⟨g, off, rfl, hg, hcells⟩ := nums_at r5 (by rw [Wl.firsts_len, List.length_append]; simp)
  have CELL := Lib.hid (fun (W : World) (h : Below w5.heap.size w5 W) (i x : Nat) (e : (Wl.firsts 0 (I1 ++ [R1]))[i]? = some x) => (h.cell (p := ⟨g, off + i, none⟩) hg).trans (hcells i x e))
  have GLT := Lib.hid (fun (W : World) (h : Below w5.heap.size w5 W) => Nat.lt_of_lt_of_le hg h.size)
  have RD5 := Lib.hid (RD.out w5 K2 X5.out)
  have FILE := Lib.hid (fun (W : World) (n : Nat) (hn : n ≤ 99999999) => rfile_any n hn W)
  obtain ⟨nl, hnl⟩ : ∃ nl, I1.length + 1 = nl := ⟨_, rfl⟩
  rw [hl5, hnl]
  clear r5 X4 hcells hg hl5 S5 hO5 b5 u1 u2 u3 u4 u5
  go_wp2
  go_loopw [12] (fun i wr => ∃ i0 : Nat, i0 ≤ I1.length ∧ i = .int .i64 i0 ∧ Hid (Wl.tot ((I1 ++ [R1]).take i0) ≤ k) ∧ Hid (Below w5.heap.size w5 wr)) (fun i _ => I1.length - (intOf i).toNat)
  case atStart => exact ⟨0, Nat.zero_le _, rfl, Lib.hid (by simp [Wl.tot]), Lib.hid (Below.refl _ _)⟩
  case round =>
    obtain ⟨i, hi, rfl, hx, hb⟩ := hrel
    obtain ⟨i1, hi1⟩ : ∃ i1, i + 1 = i1 := ⟨_, rfl⟩
    have hw1 : IntKind.i64.wrap ((i : Int) + 1) = (i1 : Int) := by rw [IntWalk.i64_in _ ⟨by omega, by omega⟩]; omega
    have hiS : i < (I1 ++ [R1]).length := by rw [List.length_append]; simp; omega
    have e0 := Wl.firsts_at (I1 ++ [R1]) 0 i hiS
    rw [Nat.zero_add] at e0
    by_cases hlt : i < I1.length
    · have e1 := Wl.firsts_at (I1 ++ [R1]) 0 (i + 1) (by rw [List.length_append]; simp; omega)
      rw [Nat.zero_add, hi1] at e1
      have q1 := CELL.out wr hb.out i1 _ e1
      have hg := GLT.out wr hb.out
      have t1 : (i1 : Int) < (nl : Int) := by omega
      have t3 : i1 < nl := by omega
      have hstep : Wl.tot ((I1 ++ [R1]).take i1) = Wl.tot ((I1 ++ [R1]).take i) + (I1 ++ [R1])[i].length := by rw [← hi1, List.take_succ_eq_append_getElem hiS, Wl.tot_snoc]
      by_cases hle : Wl.tot ((I1 ++ [R1]).take i1) ≤ k
      · have HX1 := Lib.hid hle
        have d1 : decide (((Wl.tot ((I1 ++ [R1]).take i1) : Nat) : Int) ≤ (k : Int)) = true := decide_eq_true (by omega)
        have d2 : decide (Wl.tot ((I1 ++ [R1]).take i1) ≤ k) = true := decide_eq_true hle
        clear hstep hle e0 e1 hiS
        generalize hx1 : Wl.tot ((I1 ++ [R1]).take i1) = x1 at *
        go_wp2
        go_roundw
        case rel => exact ⟨i1, by omega, by go_num, Lib.hid (by rw [hx1]; exact HX1.out), hb⟩
        case measure => simp [intOf]; omega
      have EX : ∃ Q x0, Sg K2 D i x0 Q ∧ x0 ≤ k ∧ k < x0 + Q.length ∧ (Wl.firsts 0 (I1 ++ [R1]))[i]? = some x0 := ⟨_, _, sg_is LG4.out F3.out hiS, hx.out, by omega, e0⟩
      have d1 : decide (((Wl.tot ((I1 ++ [R1]).take i1) : Nat) : Int) ≤ (k : Int)) = false := decide_eq_false (by omega)
      have d2 : decide (Wl.tot ((I1 ++ [R1]).take i1) ≤ k) = false := decide_eq_false hle
      clear hstep hle e0 e1 hiS hx
      generalize hx1 : Wl.tot ((I1 ++ [R1]).take i1) = x1 at *
      obtain ⟨Q, x0, sg, hx0k, hkQ, e0⟩ := EX
      have hg := GLT.out wr hb.out
      have q0 := CELL.out wr hb.out i x0 e0
      have t2 : (i : Int) < (nl : Int) := by omega
      have t4 : i < nl := by omega
      have FI := Lib.hid (FILE.out wr x0 (by omega))
      have RE := Lib.hid (fun (W : World) (h : Below w5.heap.size w5 W) => at_read (X5.out.below h).at_ sg.file (by rw [Wl.file_len]; decide))
      have SGi := Lib.hid sg
      clear sg
      generalize hfn : Wl.file [119] x0 = fn at *
      go_wp2_with fail
      refine FI.out.mono ?_
      rintro e w7 ⟨rfl, b7⟩
      have hb7 := Lib.hid (hb.out.trans (b7.mono hb.out.size))
      have R7 := Lib.hid (RE.out w7 hb7.out)
      clear FI hb b7 q0 RE hg
      go_wp2_with fail
      refine R7.out.mono ?_
      rintro e w8 ⟨rfl, rfl⟩
      have q0 := CELL.out w7 hb7.out i x0 e0
      have hg := GLT.out w7 hb7.out
      clear R7
      go_wp2
      go_loopw [16, 17] (fun a j wr => ∃ j0 : Nat, x0 + j0 ≤ k ∧ a = .string ⟨(Fr.flat (Q.take j0)).toArray⟩ ∧ j = .int .i64 ((x0 + j0 : Nat) : Int) ∧ Hid (Below w5.heap.size w5 wr)) (fun _ j _ => k - (intOf j).toNat)
      case atStart => exact ⟨0, hx0k, rfl, rfl, hb7⟩
      case round =>
        obtain ⟨j, hj, rfl, rfl, hb⟩ := hrel
        clear hb7 q0 hg
        have hjQ : j < Q.length := by omega
        have hr := SGi.out.recs j hjQ
        have hrl : Q[j].length ≤ 65536 := SGi.out.small _ (List.getElem_mem hjQ)
        obtain ⟨bk, offk, rfl, hbB, hcell⟩ := (RD5.out.below hb.out).at_ (k := x0 + j) (by simp [strings]; omega)
        have hcw : wr.cell? ⟨bk, offk + (x0 + j), none⟩ = some (.string ⟨(Q[j] : Str).toArray⟩) := by
          rw [hcell]
          simp [strings, (List.getElem?_eq_some_iff.1 hr).2]
        have hbk : bk < wr.heap.size := Nat.lt_of_lt_of_le hbB hb.out.size
        by_cases hlt2 : x0 + j < k
        · have hF := Lib.hid (flat_more hjQ)
          have hlenf : (Fr.flat (Q.take j)).length ≤ 4194304 := by
            have := flat_front Q j
            have := SGi.out.len
            omega
          obtain ⟨kk, hk⟩ : ∃ kk, x0 + j = kk := ⟨_, rfl⟩
          rw [hk] at hcw hlt2 ⊢
          have FRM := Lib.hid (frame_ok Q[j] wr hrl)
          have e1 := sum_two (Fr.flat (Q.take j)) (Fr.frame Q[j]) (by rw [Fr.frame_len]; omega)
          rw [← hF.out] at e1
          have hkx : (kk : Int) < (k : Int) := by omega
          have hkD : (kk : Int) < (dn : Int) := by omega
          have hkD' : kk < dn := by omega
          have hwk : IntKind.i64.wrap ((kk : Int) + 1) = ((kk + 1 : Nat) : Int) := by rw [IntWalk.i64_in _ ⟨by omega, by omega⟩]; omega
          clear hr hcell hlenf hrl
          generalize (Q[j] : Str) = r at *
          generalize ha0 : Fr.flat (Q.take j) = a0 at *
          generalize ha1 : Fr.flat (Q.take (j + 1)) = a1 at *
          clear hF
          go_wp2_with fail
          refine FRM.out.mono ?_
          rintro e w7 ⟨rfl, b7⟩
          have hb7 := Lib.hid (hb.out.trans (b7.mono hb.out.size))
          clear FRM b7 hb
          go_wp2
          go_roundw
          case rel => exact ⟨j + 1, by omega, by rw [ha1], by go_num, hb7⟩
          case measure => simp [intOf]; omega
        · have hk : x0 + j = k := by omega
          have hroom : (Fr.flat (Q.take j)).length + (Q[j].length + 7) ≤ (Fr.flat Q).length := by
            have := congrArg List.length (flat_split hjQ)
            rw [List.length_append, List.length_append, Fr.frame_len] at this
            omega
          have hfl := SGi.out.len
          have TORN := Lib.hid (fun o m v => SGi.out.torn j o m v hjQ)
          rw [hk, ← Fr.flat_len, hfn] at TORN
          rw [hk] at hcw ⊢
          obtain ⟨sz, hsz⟩ : ∃ sz, Q[j].length + 4 = sz := ⟨_, rfl⟩
          obtain ⟨y, o, y1, y2, ho, y3, y4, y5⟩ := tw_is u sz (by omega) (by omega)
          have nz : (sz : Int) ≠ 0 := by omega
          have nz2 : sz ≠ 0 := by omega
          have z0 : (Q[j].length : Int) + 4 = (sz : Int) := by omega
          have z1 : IntKind.i64.wrap (sz : Int) = (sz : Int) := IntWalk.i64_in _ ⟨by omega, by omega⟩
          obtain ⟨p3, hp3⟩ : ∃ p3, (Fr.flat (Q.take j)).length + 3 = p3 := ⟨_, rfl⟩
          obtain ⟨pl, hpl⟩ : ∃ pl, p3 + o = pl := ⟨_, rfl⟩
          have z2 : ((Fr.flat (Q.take j)).length : Int) + 3 = (p3 : Int) := by omega
          have z3 : IntKind.i64.wrap (p3 : Int) = (p3 : Int) := IntWalk.i64_in _ ⟨by omega, by omega⟩
          have z4 : (p3 : Int) + (o : Int) = (pl : Int) := by omega
          have z5 : IntKind.i64.wrap (pl : Int) = (pl : Int) := IntWalk.i64_in _ ⟨by omega, by omega⟩
          have hpf : pl < (Fr.flat Q).length := by omega
          have hpf2 : (pl : Int) < ((Fr.flat Q).length : Int) := by omega
          have d1 : decide (((Fr.flat Q).length : Int) ≤ (pl : Int)) = false := decide_eq_false (by omega)
          have d2 : decide ((Fr.flat Q).length ≤ pl) = false := decide_eq_false (by omega)
          have hv : (Fr.flat Q)[pl]? = some (Fr.flat Q)[pl] := List.getElem?_eq_getElem hpf
          obtain ⟨K3, K4, At, t, Bt, m', ht, e3, e4, T, fA, tA, lA⟩ := TORN.out o m (Fr.flat Q)[pl] (by omega) hm0 (by rw [hp3, hpl]; exact hv)
          rw [hp3, hpl] at ht
          have htl : t.length = (Fr.flat Q).length := by rw [ht, List.length_set]
          obtain ⟨zz, cap, W, hconv, hrow, h3⟩ := bytes_new wr (Fr.flat Q)
          have kv := hrow.cell pl _ hv
          have kf := hrow.frozen pl hpf
          have hgW := hrow.lt
          have row6 := hrow.set pl hpf ((Fr.flat Q)[pl] ^^^ m)
          rw [← ht] at row6
          have hx := xor_u8 (Fr.flat Q)[pl] m
          rw [hmi] at hx
          have X6 := Lib.hid (X5.out.below (hb.out.trans ((h3.setCell (p := ⟨wr.heap.size, pl, none⟩) (Nat.le_refl _) (.int .u8 ((((Fr.flat Q)[pl] ^^^ m).toNat : Nat) : Int))).mono hb.out.size)))
          have ZT := trunc_any _ X6.out.dsk fn (by rw [← hfn, Wl.file_len]; decide) 0 (by decide)
          rw [e3] at ZT
          have ZT := Lib.hid ZT
          have ROW := Lib.hid row6
          have E4 := Lib.hid e4
          have HT := Lib.hid T
          have hkD : (k : Int) < (dn : Int) := by omega
          have hkD' : k < dn := by omega
          have hkc : (k : Int) ≤ (cap1 : Int) := by omega
          have hkd2 : (k : Int) ≤ (dn : Int) := by omega
          have hfnl : fn.length ≤ 140737488351232 := by rw [← hfn, Wl.file_len]; decide
          have htl2 : t.length ≤ 140737488351232 := by omega
          have hkmin : (D.take k).length = k := by rw [List.length_take]; omega
          have HTL := Lib.hid htl
          have FA := Lib.hid fA
          have TA := Lib.hid tA
          clear TORN hr hcell hrl hroom hfl hsz hp3 hpl ht e3 e4 T fA tA htl row6 hrow hv h3 SGi CELL GLT FILE e0 ho
          generalize (Q[j] : Str) = r at *
          generalize Fr.flat (Q.take j) = a0 at *
          generalize Fr.flat Q = fq at *
          generalize (fq[pl]'hpf ^^^ m).toNat = vx at *
          generalize (fq[pl]'hpf).toNat = v0 at *
          go_wp2_with fail
          refine ZT.out.mono ?_
          rintro e w9 ⟨rfl, d9, g9, k9⟩
          have X9 := Lib.hid (X6.out.go d9 g9)
          have row9 : RowAt w9 wr.heap.size t zz := k9 _ _ ROW.out rfl
          have hcv := row9.string (cap := cap) HTL.out
          have AP := Lib.hid ((at_append X9.out.at_ E4.out hfnl htl2).mono (R' := fun e w' => e = .returned (.int .i64 0) ∧ Hid (Wa w1 w1.heap.size w1.heap.size K4 w')) fun e w' ⟨h1, h2⟩ => ⟨h1, Lib.hid (X9.out.via h2)⟩)
          clear ZT X6 ROW d9 g9 k9 row9 hconv kv kf E4
          go_wp2_with fail
          refine AP.out.mono ?_
          rintro e w10 ⟨rfl, x10⟩
          have o11 := tn_open x10.out nm_w HT.out
          rw [FA.out, TA.out] at o11
          have O11 := Lib.hid o11
          clear AP X9 hcv o11 x10
          go_wp2_with fail
          refine O11.out.mono ?_
          rintro e w11 ⟨b11, v11, K11, rfl, hb11, hv11, x11, l11, k11, L11⟩
          obtain ⟨A11, c11, rfl⟩ := owns_len hv11
          have R11 := owns_reads hv11
          rw [hkmin]
          have SM := Lib.hid (fun (c : Nat) => by
            have := same_any A11 c11 (some ⟨bk, offk, none⟩) c (D.take k) w11 _ _ (by omega) R11 ((RD.out w11 K11 x11).front k)
            rw [hkmin] at this
            exact this)
          have X11 := Lib.hid x11
          have HL11 := Lib.hid l11
          have LG11 := Lib.hid L11
          clear O11 R11 hv11 x11 l11 L11 hb11 k11
          go_wp2_with fail
          refine (SM.out _).mono ?_
          rintro e w12 ⟨rfl, b12⟩
          have X12 := Lib.hid (X11.out.below b12)
          have HL12 := Lib.hid (HL11.out.below b12)
          have NX := Lib.hid (next_any w12 HL12.out)
          have SS := Lib.hid (lg_segs X12.out HL12.out rfl LG11.out)
          clear SM X11 HL11 b12
          go_wp2_with fail
          refine NX.out.mono ?_
          rintro e w12' ⟨rfl, rfl⟩
          clear NX
          go_wp2_with fail
          refine SS.out.mono ?_
          rintro e w13 ⟨v13, rfl, hO13, b13⟩
          obtain ⟨A13, c13, rfl⟩ := own_len hO13
          rw [nats_len, Wl.firsts_len, List.length_append, lA, show i + [Fr.all t].length = i1 from hi1]
          have X13 := Lib.hid (X12.out.below b13)
          have AWr := Lib.hid (awake_any w13 X13.out.tabs X13.out.size)
          clear SS hO13 b13 X12
          go_wp2_with fail
          refine AWr.out.mono ?_
          rintro e w14 ⟨rfl, b14⟩
          go_wp2
          go_ret
          exact ⟨rfl, B1.out.trans ((X13.out.below b14).bel.mono B1.out.size)⟩
    · have hie : i = I1.length := by omega
      have t1 : ¬ (i1 : Int) < (nl : Int) := by omega
      have EX : ∃ Q x0, Sg K2 D i x0 Q ∧ x0 ≤ k ∧ k < x0 + Q.length ∧ (Wl.firsts 0 (I1 ++ [R1]))[i]? = some x0 := ⟨_, _, sg_is LG4.out F3.out hiS, hx.out, by
        have h1 : Wl.tot ((I1 ++ [R1]).take (i + 1)) = Wl.tot ((I1 ++ [R1]).take i) + (I1 ++ [R1])[i].length := by rw [List.take_succ_eq_append_getElem hiS, Wl.tot_snoc]
        rw [List.take_of_length_le (by rw [List.length_append]; simp; omega), Wl.tot, F3.out] at h1
        omega, e0⟩
      clear hlt e0 hiS hx hie
      obtain ⟨Q, x0, sg, hx0k, hkQ, e0⟩ := EX
      have hg := GLT.out wr hb.out
      have q0 := CELL.out wr hb.out i x0 e0
      have t2 : (i : Int) < (nl : Int) := by omega
      have t4 : i < nl := by omega
      have FI := Lib.hid (FILE.out wr x0 (by omega))
      have RE := Lib.hid (fun (W : World) (h : Below w5.heap.size w5 W) => at_read (X5.out.below h).at_ sg.file (by rw [Wl.file_len]; decide))
      have SGi := Lib.hid sg
      clear sg
      generalize hfn : Wl.file [119] x0 = fn at *
      go_wp2_with fail
      refine FI.out.mono ?_
      rintro e w7 ⟨rfl, b7⟩
      have hb7 := Lib.hid (hb.out.trans (b7.mono hb.out.size))
      have R7 := Lib.hid (RE.out w7 hb7.out)
      clear FI hb b7 q0 RE hg
      go_wp2_with fail
      refine R7.out.mono ?_
      rintro e w8 ⟨rfl, rfl⟩
      have q0 := CELL.out w7 hb7.out i x0 e0
      have hg := GLT.out w7 hb7.out
      clear R7
      go_wp2
      go_loopw [16, 17] (fun a j wr => ∃ j0 : Nat, x0 + j0 ≤ k ∧ a = .string ⟨(Fr.flat (Q.take j0)).toArray⟩ ∧ j = .int .i64 ((x0 + j0 : Nat) : Int) ∧ Hid (Below w5.heap.size w5 wr)) (fun _ j _ => k - (intOf j).toNat)
      case atStart => exact ⟨0, hx0k, rfl, rfl, hb7⟩
      case round =>
        obtain ⟨j, hj, rfl, rfl, hb⟩ := hrel
        clear hb7 q0 hg
        have hjQ : j < Q.length := by omega
        have hr := SGi.out.recs j hjQ
        have hrl : Q[j].length ≤ 65536 := SGi.out.small _ (List.getElem_mem hjQ)
        obtain ⟨bk, offk, rfl, hbB, hcell⟩ := (RD5.out.below hb.out).at_ (k := x0 + j) (by simp [strings]; omega)
        have hcw : wr.cell? ⟨bk, offk + (x0 + j), none⟩ = some (.string ⟨(Q[j] : Str).toArray⟩) := by
          rw [hcell]
          simp [strings, (List.getElem?_eq_some_iff.1 hr).2]
        have hbk : bk < wr.heap.size := Nat.lt_of_lt_of_le hbB hb.out.size
        by_cases hlt2 : x0 + j < k
        · have hF := Lib.hid (flat_more hjQ)
          have hlenf : (Fr.flat (Q.take j)).length ≤ 4194304 := by
            have := flat_front Q j
            have := SGi.out.len
            omega
          obtain ⟨kk, hk⟩ : ∃ kk, x0 + j = kk := ⟨_, rfl⟩
          rw [hk] at hcw hlt2 ⊢
          have FRM := Lib.hid (frame_ok Q[j] wr hrl)
          have e1 := sum_two (Fr.flat (Q.take j)) (Fr.frame Q[j]) (by rw [Fr.frame_len]; omega)
          rw [← hF.out] at e1
          have hkx : (kk : Int) < (k : Int) := by omega
          have hkD : (kk : Int) < (dn : Int) := by omega
          have hkD' : kk < dn := by omega
          have hwk : IntKind.i64.wrap ((kk : Int) + 1) = ((kk + 1 : Nat) : Int) := by rw [IntWalk.i64_in _ ⟨by omega, by omega⟩]; omega
          clear hr hcell hlenf hrl
          generalize (Q[j] : Str) = r at *
          generalize ha0 : Fr.flat (Q.take j) = a0 at *
          generalize ha1 : Fr.flat (Q.take (j + 1)) = a1 at *
          clear hF
          go_wp2_with fail
          refine FRM.out.mono ?_
          rintro e w7 ⟨rfl, b7⟩
          have hb7 := Lib.hid (hb.out.trans (b7.mono hb.out.size))
          clear FRM b7 hb
          go_wp2
          go_roundw
          case rel => exact ⟨j + 1, by omega, by rw [ha1], by go_num, hb7⟩
          case measure => simp [intOf]; omega
        · have hk : x0 + j = k := by omega
          have hroom : (Fr.flat (Q.take j)).length + (Q[j].length + 7) ≤ (Fr.flat Q).length := by
            have := congrArg List.length (flat_split hjQ)
            rw [List.length_append, List.length_append, Fr.frame_len] at this
            omega
          have hfl := SGi.out.len
          have TORN := Lib.hid (fun o m v => SGi.out.torn j o m v hjQ)
          rw [hk, ← Fr.flat_len, hfn] at TORN
          rw [hk] at hcw ⊢
          obtain ⟨sz, hsz⟩ : ∃ sz, Q[j].length + 4 = sz := ⟨_, rfl⟩
          obtain ⟨y, o, y1, y2, ho, y3, y4, y5⟩ := tw_is u sz (by omega) (by omega)
          have nz : (sz : Int) ≠ 0 := by omega
          have nz2 : sz ≠ 0 := by omega
          have z0 : (Q[j].length : Int) + 4 = (sz : Int) := by omega
          have z1 : IntKind.i64.wrap (sz : Int) = (sz : Int) := IntWalk.i64_in _ ⟨by omega, by omega⟩
          obtain ⟨p3, hp3⟩ : ∃ p3, (Fr.flat (Q.take j)).length + 3 = p3 := ⟨_, rfl⟩
          obtain ⟨pl, hpl⟩ : ∃ pl, p3 + o = pl := ⟨_, rfl⟩
          have z2 : ((Fr.flat (Q.take j)).length : Int) + 3 = (p3 : Int) := by omega
          have z3 : IntKind.i64.wrap (p3 : Int) = (p3 : Int) := IntWalk.i64_in _ ⟨by omega, by omega⟩
          have z4 : (p3 : Int) + (o : Int) = (pl : Int) := by omega
          have z5 : IntKind.i64.wrap (pl : Int) = (pl : Int) := IntWalk.i64_in _ ⟨by omega, by omega⟩
          have hpf : pl < (Fr.flat Q).length := by omega
          have hpf2 : (pl : Int) < ((Fr.flat Q).length : Int) := by omega
          have d1 : decide (((Fr.flat Q).length : Int) ≤ (pl : Int)) = false := decide_eq_false (by omega)
          have d2 : decide ((Fr.flat Q).length ≤ pl) = false := decide_eq_false (by omega)
          have hv : (Fr.flat Q)[pl]? = some (Fr.flat Q)[pl] := List.getElem?_eq_getElem hpf
          obtain ⟨K3, K4, At, t, Bt, m', ht, e3, e4, T, fA, tA, lA⟩ := TORN.out o m (Fr.flat Q)[pl] (by omega) hm0 (by rw [hp3, hpl]; exact hv)
          rw [hp3, hpl] at ht
          have htl : t.length = (Fr.flat Q).length := by rw [ht, List.length_set]
          obtain ⟨zz, cap, W, hconv, hrow, h3⟩ := bytes_new wr (Fr.flat Q)
          have kv := hrow.cell pl _ hv
          have kf := hrow.frozen pl hpf
          have hgW := hrow.lt
          have row6 := hrow.set pl hpf ((Fr.flat Q)[pl] ^^^ m)
          rw [← ht] at row6
          have hx := xor_u8 (Fr.flat Q)[pl] m
          rw [hmi] at hx
          have X6 := Lib.hid (X5.out.below (hb.out.trans ((h3.setCell (p := ⟨wr.heap.size, pl, none⟩) (Nat.le_refl _) (.int .u8 ((((Fr.flat Q)[pl] ^^^ m).toNat : Nat) : Int))).mono hb.out.size)))
          have ZT := trunc_any _ X6.out.dsk fn (by rw [← hfn, Wl.file_len]; decide) 0 (by decide)
          rw [e3] at ZT
          have ZT := Lib.hid ZT
          have ROW := Lib.hid row6
          have E4 := Lib.hid e4
          have HT := Lib.hid T
          have hkD : (k : Int) < (dn : Int) := by omega
          have hkD' : k < dn := by omega
          have hkc : (k : Int) ≤ (cap1 : Int) := by omega
          have hkd2 : (k : Int) ≤ (dn : Int) := by omega
          have hfnl : fn.length ≤ 140737488351232 := by rw [← hfn, Wl.file_len]; decide
          have htl2 : t.length ≤ 140737488351232 := by omega
          have hkmin : (D.take k).length = k := by rw [List.length_take]; omega
          have HTL := Lib.hid htl
          have FA := Lib.hid fA
          have TA := Lib.hid tA
          clear TORN hr hcell hrl hroom hfl hsz hp3 hpl ht e3 e4 T fA tA htl row6 hrow hv h3 SGi CELL GLT FILE e0 ho
          generalize (Q[j] : Str) = r at *
          generalize Fr.flat (Q.take j) = a0 at *
          generalize Fr.flat Q = fq at *
          generalize (fq[pl]'hpf ^^^ m).toNat = vx at *
          generalize (fq[pl]'hpf).toNat = v0 at *
          go_wp2_with fail
          refine ZT.out.mono ?_
          rintro e w9 ⟨rfl, d9, g9, k9⟩
          have X9 := Lib.hid (X6.out.go d9 g9)
          have row9 : RowAt w9 wr.heap.size t zz := k9 _ _ ROW.out rfl
          have hcv := row9.string (cap := cap) HTL.out
          have AP := Lib.hid ((at_append X9.out.at_ E4.out hfnl htl2).mono (R' := fun e w' => e = .returned (.int .i64 0) ∧ Hid (Wa w1 w1.heap.size w1.heap.size K4 w')) fun e w' ⟨h1, h2⟩ => ⟨h1, Lib.hid (X9.out.via h2)⟩)
          clear ZT X6 ROW d9 g9 k9 row9 hconv kv kf E4
          go_wp2_with fail
          refine AP.out.mono ?_
          rintro e w10 ⟨rfl, x10⟩
          have o11 := tn_open x10.out nm_w HT.out
          rw [FA.out, TA.out] at o11
          have O11 := Lib.hid o11
          clear AP X9 hcv o11 x10
          go_wp2_with fail
          refine O11.out.mono ?_
          rintro e w11 ⟨b11, v11, K11, rfl, hb11, hv11, x11, l11, k11, L11⟩
          obtain ⟨A11, c11, rfl⟩ := owns_len hv11
          have R11 := owns_reads hv11
          rw [hkmin]
          have SM := Lib.hid (fun (c : Nat) => by
            have := same_any A11 c11 (some ⟨bk, offk, none⟩) c (D.take k) w11 _ _ (by omega) R11 ((RD.out w11 K11 x11).front k)
            rw [hkmin] at this
            exact this)
          have X11 := Lib.hid x11
          have HL11 := Lib.hid l11
          have LG11 := Lib.hid L11
          clear O11 R11 hv11 x11 l11 L11 hb11 k11
          go_wp2_with fail
          refine (SM.out _).mono ?_
          rintro e w12 ⟨rfl, b12⟩
          have X12 := Lib.hid (X11.out.below b12)
          have HL12 := Lib.hid (HL11.out.below b12)
          have NX := Lib.hid (next_any w12 HL12.out)
          have SS := Lib.hid (lg_segs X12.out HL12.out rfl LG11.out)
          clear SM X11 HL11 b12
          go_wp2_with fail
          refine NX.out.mono ?_
          rintro e w12' ⟨rfl, rfl⟩
          clear NX
          go_wp2_with fail
          refine SS.out.mono ?_
          rintro e w13 ⟨v13, rfl, hO13, b13⟩
          obtain ⟨A13, c13, rfl⟩ := own_len hO13
          rw [nats_len, Wl.firsts_len, List.length_append, lA, show i + [Fr.all t].length = i1 from hi1]
          have X13 := Lib.hid (X12.out.below b13)
          have AWr := Lib.hid (awake_any w13 X13.out.tabs X13.out.size)
          clear SS hO13 b13 X12
          go_wp2_with fail
          refine AWr.out.mono ?_
          rintro e w14 ⟨rfl, b14⟩
          go_wp2
          go_ret
          exact ⟨rfl, B1.out.trans ((X13.out.below b14).bel.mono B1.out.size)⟩
end Go.Proofs.YtpafialojcidnaaGreatDoor
