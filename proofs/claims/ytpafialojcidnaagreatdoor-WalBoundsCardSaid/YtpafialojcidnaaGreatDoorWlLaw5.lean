/- The law WalBounds, walked. -/
import Derived.Test.YtpafialojcidnaaGreatDoorWlRefFile
import Derived.Test.YtpafialojcidnaaGreatDoorFrRef
namespace Go.Proofs.YtpafialojcidnaaGreatDoor
open Go.RowKit Go.Maps Dk
open Wl (Lo Lg Tn)
set_option linter.unusedVariables false

theorem row_at {W : World} {B : Nat} {A : Option Addr} {ns : List Nat} (h : Reads W B A (ints (nats ns))) (h0 : 0 < ns.length) : ∃ g off, A = some ⟨g, off, none⟩ ∧ g < B ∧ ∀ i (x : Nat), ns[i]? = some x → W.cell? ⟨g, off + i, none⟩ = some (.int .i64 (x : Int)) := by
  obtain ⟨b, off, rfl, hb, hc⟩ := h (by simp only [ints, nats, List.length_map]; exact h0)
  exact ⟨b, off, rfl, hb, fun i x hx => hc i _ (by simp [ints, nats, hx])⟩
theorem ns_at {S : List (List Str)} {D : List Str} (h : S.flatten = D) {i : Nat} (hi : i ≤ S.length) : (Wl.firsts 0 S ++ [D.length])[i]? = some (Wl.tot (S.take i)) := by
  by_cases hlt : i < S.length
  · rw [List.getElem?_append_left (by rw [Wl.firsts_len]; exact hlt), Wl.firsts_at S 0 i hlt, Nat.zero_add]
  · obtain rfl : i = S.length := by omega
    rw [List.getElem?_append_right (by rw [Wl.firsts_len]; omega), Wl.firsts_len, List.take_length, Nat.sub_self, Wl.tot, h]
    rfl
theorem seg_at {S : List (List Str)} {D : List Str} (h : S.flatten = D) {i : Nat} (hi : i < S.length) : S = S.take i ++ S[i] :: S.drop (i + 1) ∧ Wl.tot (S.take (i + 1)) = Wl.tot (S.take i) + S[i].length ∧ Wl.tot (S.take (i + 1)) ≤ D.length ∧ ∀ j (hj : j < S[i].length), D[Wl.tot (S.take i) + j]? = some S[i][j] := by
  have e : S = S.take i ++ S[i] :: S.drop (i + 1) := by rw [← List.drop_eq_getElem_cons hi, List.take_append_drop]
  have eD : D = (S.take i).flatten ++ (S[i] ++ (S.drop (i + 1)).flatten) := by
    rw [← h]
    conv => lhs; rw [e, List.flatten_append, List.flatten_cons]
  refine ⟨e, by rw [List.take_succ_eq_append_getElem hi, Wl.tot_snoc], ?_, fun j hj => ?_⟩
  · rw [List.take_succ_eq_append_getElem hi, Wl.tot_snoc, eD, List.length_append, List.length_append, Wl.tot]
    omega
  · rw [eD, Wl.tot, List.getElem?_append_right (by omega), Nat.add_sub_cancel_left, List.getElem?_append_left hj, List.getElem?_eq_getElem hj]
theorem place_le (m : Nat) : ∀ (Q : List Str), (∀ x ∈ Q, x.length ≤ m) → Fr.place Q ≤ Q.length * (m + 7)
  | [], _ => by simp [Fr.place]
  | x :: Q, h => by
    have h1 := h x (List.mem_cons_self ..)
    have h2 := place_le m Q fun y hy => h y (List.mem_cons_of_mem _ hy)
    rw [Fr.place_cons, List.length_cons, Nat.add_mul]
    omega
theorem take_last {Q : List Str} {j : Nat} (hj : j < Q.length) : (Q.take (j + 1)).dropLast = Q.take j := by
  rw [List.take_succ_eq_append_getElem hj, List.dropLast_concat]
theorem flat_more {Q : List Str} {j : Nat} (hj : j < Q.length) : Fr.flat (Q.take (j + 1)) = Fr.flat (Q.take j) ++ Fr.frame Q[j] := by
  rw [List.take_succ_eq_append_getElem hj, Fr.flat_snoc]
theorem frame_ok (r : Str) (w : World) (h : r.length ≤ 65536) :
    Calls Tryz.prog 21 #[.string ⟨r.toArray⟩] w fun e w' => e = .returned (.tuple #[.string ⟨(Fr.frame r).toArray⟩, .int .i64 0]) ∧ Below w.heap.size w w' := by
  have := rframe_any r w (by omega)
  unfold frameText frameErr at this
  rw [if_neg (by omega), if_neg (by omega)] at this
  exact this
/-- what is known of a segment -/
structure Seg (I : List (List Str)) (R D : List Str) (K : St) (i : Nat) (Q : List Str) (x0 x1 : Nat) : Prop where
  e0 : (Wl.firsts 0 (I ++ [R]) ++ [D.length])[i]? = some x0
  e1 : (Wl.firsts 0 (I ++ [R]) ++ [D.length])[i + 1]? = some x1
  sum : x1 = x0 + Q.length
  top : x1 ≤ D.length
  recs : ∀ j (hj : j < Q.length), D[x0 + j]? = some Q[j]
  file : Dk.read K (Wl.file [119] x0) = (Fr.flat Q, 0)
  short : Fr.place Q.dropLast < 4096
  full : i < I.length → 4096 ≤ Fr.place Q
theorem seg_is {I : List (List Str)} {R D : List Str} {K : St} (L : Lg K [119] 0 I R) (h : (I ++ [R]).flatten = D) (b : Wl.Bd I R) {i : Nat} (hi : i < I.length + 1) : ∃ Q x0 x1, Seg I R D K i Q x0 x1 := by
  have hl : i < (I ++ [R]).length := by rw [List.length_append]; exact hi
  obtain ⟨e, s, t, r⟩ := seg_at h hl
  refine ⟨(I ++ [R])[i], _, _, ns_at h (by omega), ns_at h hl, s, t, r, ?_, ?_, fun hI => ?_⟩
  · have := L.got_of e
    rw [Nat.zero_add] at this
    exact this
  · by_cases hI : i < I.length
    · rw [List.getElem_append_left hI]
      exact (b.full _ (List.getElem_mem hI)).2
    · rw [List.getElem_append_right (by omega)]
      simp only [List.getElem_singleton]
      exact b.last
  · rw [List.getElem_append_left hI]
    exact (b.full _ (List.getElem_mem hI)).1

set_option maxHeartbeats 32000000 in
set_option maxRecDepth 100000 in
theorem law_bounds (w : World) (ht : Tabs w.heap.size w) (A : Option Addr) (cap : Nat) (l : List Str) (hlc : l.length ≤ cap) (hcap : cap ≤ 140737488351232) (hl : ∀ s ∈ l, s.length ≤ 140737488351232) (hr : Reads w w.heap.size A (strings l)) :
    Calls Tryz.prog 5 #[.slice A l.length cap] w fun e w' => e = .returned (.bool true) ∧ Below w.heap.size w w' := by
  have F := Lib.hid (few_any w A cap l (by omega) hl (Nat.le_refl _) hr)
  have HT := Lib.hid ht
  clear ht hr hl hlc
  obtain ⟨i0, hi, hz0, hz1, hz2⟩ := info_parts int_info
  have HI := Lib.hid (And.intro hi (And.intro hz0 (And.intro hz1 hz2)))
  clear hi hz0 hz1 hz2
  go_enter Tryz.func5, Tryz.ntmps5
  go_wp2_with fail
  refine F.out.mono ?_
  rintro e w1 ⟨v, rfl, D, hD, hO, b1⟩
  obtain ⟨A1, cap1, rfl⟩ := owns_len hO
  have T1 := HT.out.below b1 (Nat.le_refl _)
  have M := Lib.hid (lmade_any w1 T1 b1.size)
  have HO := Lib.hid hO
  have HD := Lib.hid hD
  have B1 := Lib.hid b1
  have hn := hD.1
  clear F T1 hO hD b1
  go_wp2_with fail
  refine M.out.mono ?_
  rintro e w2 ⟨b, K0, rfl, x2, l2, L0⟩
  have hsm : ∀ r ∈ D, r.length ≤ 65536 := fun r hm => by have := HD.out.2 r hm; omega
  have RD : Hid (∀ (W' : World) (K' : St), Wa w1 w1.heap.size w1.heap.size K' W' → Reads W' W'.heap.size A1 (strings D)) := Lib.hid fun W' K' h => owns_reads (owns_kp HO.out (p := isLog) (fun _ => rfl) h.gone.kp)
  have A2 := Lib.hid (lg_append (n0 := 0) (I := []) (R := []) x2 l2 L0 A1 cap1 D.length D rfl hsm (by simp [Wl.tot]; omega) (by simp; omega) (fun W' K' h => RD.out W' K' (x2.trans h)))
  have HSM := Lib.hid hsm
  clear M L0 l2 x2 hsm
  go_wp2_with fail
  refine A2.out.mono ?_
  rintro e w3 ⟨rfl, K1, I1, R1, h3⟩
  obtain ⟨x3, l3, L3, f3, n3, bd3⟩ := h3.out
  have f3 : (I1 ++ [R1]).flatten = D := f3
  have hI1 : I1.length ≤ 30 := by simp at n3; omega
  have SG := Lib.hid (fun (i : Nat) (h : i < I1.length + 1) => seg_is L3 f3 (bd3 Wl.bd_new) h)
  have S3 := Lib.hid (lg_segs x3 l3 rfl L3)
  have X3 := Lib.hid x3
  clear A2 h3 x3 l3 L3 f3 n3 bd3
  go_wp2_with fail
  refine S3.out.mono ?_
  rintro e w4 ⟨v4, rfl, hO4, b4⟩
  have HO4 := Lib.hid hO4
  have B4 := Lib.hid b4
  have hs4 := b4.size
  have hl4 : (nats (Wl.firsts 0 (I1 ++ [R1]))).length = I1.length + 1 := by rw [nats_len, Wl.firsts_len, List.length_append]; rfl
  clear S3 hO4 b4
  go_wp2_with (at_builtin; refine wpList_append_own _ rfl _ _ 38 rfl w3.heap.size 3 i0 (.int .i64 0) 1 8 ints_und HI.out.1 HI.out.2.1 HI.out.2.2.1 HI.out.2.2.2 rfl (by decide) _ _ _ rfl (World.ownsRow.alloc HO4.out _) ⟨w4.heap.size, 0, none⟩ 1 1 [.int .i64 (D.length : Int)] rfl rfl (by intro j u hj; match j, hj with | 0, hj => simp at hj; subst hj; simp [Addr.add]) (by intro u hu; simp at hu; subst hu; rfl) (by unfold maxLen; omega) (by omega) (by rw [size1]; omega) ?_; intro v' w5 hown' hgrow _)
  have R' := push_step HO4.out B4.out hs4 hown' hgrow
  obtain ⟨A5, c5, rfl, r5⟩ := own_at R'.1
  have X5 := Lib.hid (X3.out.below R'.2)
  have eN : nats (Wl.firsts 0 (I1 ++ [R1])) ++ [(D.length : Int)] = nats (Wl.firsts 0 (I1 ++ [R1]) ++ [D.length]) := by simp [nats]
  rw [eN] at r5
  obtain ⟨g, off, rfl, hg, hcells⟩ := row_at r5 (by simp)
  have CELL := Lib.hid (fun (W : World) (h : Below w5.heap.size w5 W) (i x : Nat) (e : (Wl.firsts 0 (I1 ++ [R1]) ++ [D.length])[i]? = some x) => (h.cell (p := ⟨g, off + i, none⟩) hg).trans (hcells i x e))
  have GLT := Lib.hid (fun (W : World) (h : Below w5.heap.size w5 W) => Nat.lt_of_lt_of_le hg h.size)
  have RD5 := Lib.hid (RD.out w5 K1 X5.out)
  have FIN := Lib.hid (fun (W : World) (h : Below w5.heap.size w5 W) => B1.out.trans ((X5.out.below h).bel.mono B1.out.size))
  have AW := Lib.hid (fun (W : World) (h : Below w5.heap.size w5 W) => awake_any W (X5.out.below h).tabs (X5.out.below h).size)
  have FILE := Lib.hid (fun (W : World) (n : Nat) (hn : n ≤ 99999999) => rfile_any n hn W)
  have READ := Lib.hid (fun (W : World) (h : Below w5.heap.size w5 W) (n : Nat) (t : Str) (e : Dk.read K1 (Wl.file [119] n) = (t, 0)) => at_read (X5.out.below h).at_ e (by rw [Wl.file_len]; decide))
  obtain ⟨nl, hnl⟩ : ∃ nl, I1.length + 1 + 1 = nl := ⟨_, rfl⟩
  rw [List.length_append, hl4, show I1.length + 1 + [(D.length : Int)].length = nl from hnl]
  clear R' r5 hown' hgrow HO4 B4 X3 RD hcells hg hs4 hl4 eN HI
  go_wp2
  go_loopw [7] (fun i wr => ∃ i0 : Nat, i0 ≤ I1.length + 1 ∧ i = .int .i64 i0 ∧ Hid (Below w5.heap.size w5 wr)) (fun i _ => I1.length + 1 - (intOf i).toNat)
  case atStart => exact ⟨0, Nat.zero_le _, rfl, Lib.hid (Below.refl _ _)⟩
  case round =>
    obtain ⟨i, hi, rfl, hb⟩ := hrel
    obtain ⟨i1, hi1⟩ : ∃ i1, i + 1 = i1 := ⟨_, rfl⟩
    have hw1 : IntKind.i64.wrap ((i : Int) + 1) = (i1 : Int) := by rw [IntWalk.i64_in _ ⟨by omega, by omega⟩]; omega
    by_cases hlt : i < I1.length + 1
    · obtain ⟨Q, x0, x1, sg⟩ := SG.out i hlt
      have t1 : (i1 : Int) < (nl : Int) := by omega
      have t2 : (i : Int) < (nl : Int) := by omega
      have t3 : i1 < nl := by omega
      have t4 : i < nl := by omega
      have q0 := CELL.out wr hb.out i x0 sg.e0
      have q1 := CELL.out wr hb.out i1 x1 (by rw [← hi1]; exact sg.e1)
      have hg := GLT.out wr hb.out
      have hsum := sg.sum
      have htop := sg.top
      have d1 : decide (x1 < x0) = false := decide_eq_false (by omega)
      have d2 : decide ((x1 : Int) < (x0 : Int)) = false := decide_eq_false (by omega)
      have d3 : decide (D.length < x1) = false := decide_eq_false (by omega)
      have d4 : decide ((D.length : Int) < (x1 : Int)) = false := decide_eq_false (by omega)
      have SGi := Lib.hid sg
      clear sg hsum
      go_wp2
      refine Og.grow 20 (by kernel_rfl) (by kernel_rfl) fun hc hf => ?_
      simp only [List.take_succ_cons, List.take_zero, List.drop_succ_cons, List.drop_zero]
      repeat (refine Og.det [] rfl (fun K hK => ?_); go_simp; refine hK _ _ ?_; clear hK K)
      refine Og.fin fun W hW => ?_
      simp only [Og.opened_nil]
      have hb9 := Lib.hid (hb.out.trans (hW.mono hb.out.size))
      have q0 := CELL.out W hb9.out i x0 SGi.out.e0
      clear hc hf hW hb q1 hg d1 d2 d3 d4
      have hQ : Q.length ≤ 30 := by have := SGi.out.sum; omega
      have hx1 : x1 = x0 + Q.length := SGi.out.sum
      have HX1 := Lib.hid hx1
      have h0W := GLT.out W hb9.out
      clear hx1
      go_wp2
      go_loopw [8, 9, 10] (fun a s k wr => ∃ j : Nat, j ≤ Q.length ∧ a = .string ⟨(Fr.flat (Q.take j)).toArray⟩ ∧ s = .string ⟨(Fr.flat (Q.take j).dropLast).toArray⟩ ∧ k = .int .i64 ((x0 + j : Nat) : Int) ∧ Hid (Below w5.heap.size w5 wr)) (fun _ _ k _ => x1 - (intOf k).toNat)
      case atStart => exact ⟨0, Nat.zero_le _, rfl, rfl, rfl, hb9⟩
      case round =>
        obtain ⟨j, hj, rfl, rfl, rfl, hb⟩ := hrel
        clear hb9 h0W q0
        have q1 := CELL.out wr hb.out i1 x1 (by rw [← hi1]; exact SGi.out.e1)
        by_cases hlt2 : j < Q.length
        · have hr := SGi.out.recs j hlt2
          have hF := Lib.hid (flat_more hlt2)
          have hL := Lib.hid (take_last hlt2)
          have hlenf : (Fr.flat (Q.take j)).length ≤ 2000000 := by
            rw [Fr.flat_len]
            have := place_le 65536 (Q.take j) (fun x hx => by
              obtain ⟨m, hm⟩ := List.getElem?_of_mem (List.mem_of_mem_take hx)
              have hm2 := (List.getElem?_eq_some_iff.1 hm)
              have := SGi.out.recs m hm2.1
              rw [hm2.2] at this
              exact HSM.out x (List.mem_of_getElem? this))
            rw [List.length_take] at this
            omega
          have hrl : Q[j].length ≤ 65536 := HSM.out _ (List.mem_of_getElem? hr)
          have hkk : x0 + j < x1 := by have := HX1.out; omega
          obtain ⟨bk, offk, rfl, hbB, hcell⟩ := (RD5.out.below hb.out).at_ (k := x0 + j) (by simp [strings]; omega)
          have hcw : wr.cell? ⟨bk, offk + (x0 + j), none⟩ = some (.string ⟨(Q[j] : Str).toArray⟩) := by
            rw [hcell]
            simp [strings, (List.getElem?_eq_some_iff.1 hr).2]
          obtain ⟨kk, hk⟩ : ∃ kk, x0 + j = kk := ⟨_, rfl⟩
          rw [hk] at hcw hkk ⊢
          have FRM := Lib.hid (frame_ok Q[j] wr hrl)
          have e1 := sum_two (Fr.flat (Q.take j)) (Fr.frame Q[j]) (by rw [Fr.frame_len]; omega)
          rw [← hF.out] at e1
          have hkx : (kk : Int) < (x1 : Int) := by omega
          have hkD : (kk : Int) < (D.length : Int) := by omega
          have hkD' : kk < D.length := by omega
          have hwk : IntKind.i64.wrap ((kk : Int) + 1) = ((kk + 1 : Nat) : Int) := by rw [IntWalk.i64_in _ ⟨by omega, by omega⟩]; omega
          clear hr hcell hlenf hrl
          generalize (Q[j] : Str) = r at *
          generalize ha0 : Fr.flat (Q.take j) = a0 at *
          generalize hs0 : Fr.flat (Q.take j).dropLast = s0 at *
          generalize ha1 : Fr.flat (Q.take (j + 1)) = a1 at *
          clear hF
          go_wp2_with fail
          refine FRM.out.mono ?_
          rintro e w7 ⟨rfl, b7⟩
          have hb7 := Lib.hid (hb.out.trans (b7.mono hb.out.size))
          clear FRM b7 hb
          go_wp2
          go_roundw
          case rel => exact ⟨j + 1, by omega, by rw [ha1], by rw [hL.out, ha0], by go_num, hb7⟩
          case measure => simp [intOf]; omega
        · obtain rfl : j = Q.length := by omega
          rw [List.take_length, ← HX1.out]
          have q0 := CELL.out wr hb.out i x0 SGi.out.e0
          have FI := Lib.hid (FILE.out wr x0 (by have := HX1.out; omega))
          have hsh : (Fr.flat Q.dropLast).length < 4096 := by rw [Fr.flat_len]; exact SGi.out.short
          have hfu : i < I1.length → 4096 ≤ (Fr.flat Q).length := fun h => by rw [Fr.flat_len]; exact SGi.out.full h
          have RE := Lib.hid (fun (W : World) (h : Below w5.heap.size w5 W) => READ.out W h x0 _ SGi.out.file)
          have hxx : (Fr.flat Q == Fr.flat Q) = true := by simp
          generalize Fr.flat Q = fq at *
          generalize Fr.flat Q.dropLast = fs at *
          generalize Wl.file [119] x0 = fn at *
          have u1 : decide ((4096 : Int) ≤ (fs.length : Int)) = false := decide_eq_false (by omega)
          have u2 : decide (4096 ≤ fs.length) = false := decide_eq_false (by omega)
          have u3 : IntKind.i64.wrap ((i : Int) + 2) = ((i + 2 : Nat) : Int) := by rw [IntWalk.i64_in _ ⟨by omega, by omega⟩]; omega
          obtain ⟨i2, hi2⟩ : ∃ i2, i + 2 = i2 := ⟨_, rfl⟩
          rw [hi2] at u3
          have ucase : (decide ((i2 : Int) < (nl : Int)) = true ∧ decide (i2 < nl) = true ∧ decide ((fq.length : Int) < 4096) = false ∧ decide (fq.length < 4096) = false) ∨ (decide ((i2 : Int) < (nl : Int)) = false ∧ decide (i2 < nl) = false ∧ True ∧ True) := by
            by_cases h : i2 < nl
            · have := hfu (by omega)
              exact .inl ⟨decide_eq_true (by omega), decide_eq_true h, decide_eq_false (by omega), decide_eq_false (by omega)⟩
            · exact .inr ⟨decide_eq_false (by omega), decide_eq_false h, trivial, trivial⟩
          have hq0 := GLT.out wr hb.out
          clear hsh hfu
          rcases ucase with ⟨v1, v2, v3, v4⟩ | ⟨v1, v2, v3, v4⟩
          all_goals
            go_wp2_with fail
            refine FI.out.mono ?_
            rintro e w7 ⟨rfl, b7⟩
            have hb7 := Lib.hid (hb.out.trans (b7.mono hb.out.size))
            have R7 := Lib.hid (RE.out w7 hb7.out)
            go_wp2_with fail
            refine R7.out.mono ?_
            rintro e w8 ⟨rfl, rfl⟩
            go_wp2
            go_roundw
            case rel => exact ⟨i1, by omega, by go_num, hb7⟩
            case measure => simp [intOf]; omega
    · obtain rfl : i = I1.length + 1 := by omega
      have t1 : ¬ (i1 : Int) < (nl : Int) := by omega
      have AWr := Lib.hid (AW.out wr hb.out)
      go_wp2_with fail
      refine AWr.out.mono ?_
      rintro e w13 ⟨rfl, b13⟩
      go_wp2
      go_ret
      exact ⟨rfl, FIN.out _ (hb.out.trans (b13.mono hb.out.size))⟩
end Go.Proofs.YtpafialojcidnaaGreatDoor
