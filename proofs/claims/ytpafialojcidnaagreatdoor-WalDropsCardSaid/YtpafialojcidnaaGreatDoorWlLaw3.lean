/- The law WalDrops, walked. -/
import Derived.Test.YtpafialojcidnaaGreatDoorWlTop
namespace Go.Proofs.YtpafialojcidnaaGreatDoor
open Go.RowKit Go.Maps Dk
open Wl (Lo Lg Tn)
set_option linter.unusedVariables false

/-- a slice of these texts -/
def OwnSP (l : List Str) : Og.Ph := fun v W => OwnS W 0 v l
theorem ownSP_lasts (l : List Str) : Og.Lasts grows (OwnSP l) := fun _ _ _ h hr => owns_below h hr
theorem ownSP_noBool (l : List Str) : Og.NoBool (OwnSP l) := fun v _ h => by obtain ⟨A, c, h⟩ := owns_len h; cases h
theorem owns_call {P : Program} {f : FuncId} {args : Array Value} {W : World} {l : List Str} (h : Calls P f args W fun e w' => ∃ v, e = .returned v ∧ OwnS w' W.heap.size v l ∧ Below W.heap.size W w') :
    Calls P f args W fun e w' => ∃ v, e = .returned v ∧ grows.r W w' ∧ OwnSP l v w' :=
  h.mono fun _ _ ⟨v, h1, h2, h3⟩ => ⟨v, h1, h3, owns_base h2 (Nat.zero_le _)⟩
theorem same_owns {W : World} {B B2 : Nat} {u : Value} {A : Option Addr} {n c : Nat} {l : List Str} (hl : l.length ≤ 140737488351232) (hn : n = l.length) (hu : OwnS W B u l) (hv : Reads W B2 A (strings l)) :
    Calls Tryz.prog 12 #[u, .slice A n c] W fun e w' => e = .returned (.bool true) ∧ Below W.heap.size W w' := by
  subst hn
  obtain ⟨A', ca, rfl⟩ := owns_len hu
  exact same_any A' ca A c l W _ _ hl (owns_reads hu) hv
/-- the first two of a row of numbers -/
theorem two_at {W : World} {B : Nat} {A : Option Addr} {ns : List Nat} (h : Reads W B A (ints (nats ns))) {x : Nat} (h0 : ns[0]? = some x) : ∃ b off, A = some ⟨b, off, none⟩ ∧ b < B ∧ W.cell? ⟨b, off, none⟩ = some (.int .i64 (x : Int)) ∧ ∀ y : Nat, ns[1]? = some y → W.cell? ⟨b, off + 1, none⟩ = some (.int .i64 (y : Int)) := by
  have hp : 0 < ns.length := (List.getElem?_eq_some_iff.1 h0).1
  obtain ⟨b, off, rfl, hb, hc⟩ := h (by simp only [ints, nats, List.length_map]; exact hp)
  refine ⟨b, off, rfl, hb, ?_, fun y hy => ?_⟩
  · have := hc 0 (.int .i64 (x : Int)) (by simp [ints, nats, h0])
    simpa using this
  · exact hc 1 _ (by simp [ints, nats, hy])
theorem drop_is {I : List (List Str)} {R D : List Str} {k m : Nat} (h : (I ++ [R]).flatten = D) (hm : Wl.tot (I.take k) = m) : (I.drop k ++ [R]).flatten = D.drop m := by
  have e : D = (I.take k).flatten ++ (I.drop k ++ [R]).flatten := by rw [← List.flatten_append, ← List.append_assoc, List.take_append_drop, h]
  rw [e]
  exact (List.drop_left' hm).symm
theorem firsts_zero (m : Nat) (J : List (List Str)) (R : List Str) : (Wl.firsts m (J ++ [R]))[0]? = some m := by
  have := Wl.firsts_at (J ++ [R]) m 0 (by simp)
  simpa [Wl.tot] using this
theorem firsts_one_at {I : List (List Str)} {k : Nat} (hk : k < I.length) (n : Nat) (R : List Str) : (Wl.firsts (n + Wl.tot (I.take k)) (I.drop k ++ [R]))[1]? = some (n + Wl.tot (I.take (k + 1))) := by
  obtain ⟨e, e2⟩ := Wl.drop_step hk
  have := Wl.firsts_at (I.drop k ++ [R]) (n + Wl.tot (I.take k)) 1 (by simp; omega)
  rw [this, e, e2]
  simp only [List.cons_append, List.take_succ_cons, List.take_zero, Wl.tot, List.flatten_cons, List.flatten_nil, List.append_nil]
  rw [Nat.add_assoc]

set_option maxHeartbeats 32000000 in
set_option maxRecDepth 100000 in
theorem law_drops (w : World) (ht : Tabs w.heap.size w) (A : Option Addr) (cap : Nat) (l : List Str) (hlc : l.length ≤ cap) (hcap : cap ≤ 140737488351232) (hl : ∀ s ∈ l, s.length ≤ 140737488351232) (hr : Reads w w.heap.size A (strings l)) (u : Int) (hu : -9223372036854775808 ≤ u ∧ u ≤ 9223372036854775807) :
    Calls Tryz.prog 4 #[.slice A l.length cap, .int .i64 u] w fun e w' => e = .returned (.bool true) ∧ Below w.heap.size w w' := by
  have F := Lib.hid (few_any w A cap l (by omega) hl (Nat.le_refl _) hr)
  have HT := Lib.hid ht
  clear ht hr hl hlc
  go_enter Tryz.func4, Tryz.ntmps4
  go_wp2_with fail
  refine F.out.mono ?_
  rintro e w1 ⟨v, rfl, D, hD, hO, b1⟩
  obtain ⟨A1, cap1, rfl⟩ := owns_len hO
  have T1 := HT.out.below b1 (Nat.le_refl _)
  have M := Lib.hid (lmade_any w1 T1 b1.size)
  have HO := Lib.hid hO
  have HD := Lib.hid hD
  have B1 := Lib.hid b1
  have hn := hD.1
  have hcap1 : D.length ≤ cap1 := by
    rcases hO.2 with ⟨e, e2⟩ | ⟨g, c2, cur, e, _, _, h1, h2, _⟩
    · simp only [Value.slice.injEq] at e; omega
    · cases e; exact h1
  clear F T1 hO hD b1
  go_wp2_with fail
  refine M.out.mono ?_
  rintro e w2 ⟨b, K0, rfl, x2, l2, L0⟩
  have hsm : ∀ r ∈ D, r.length ≤ 65536 := fun r hm => by have := HD.out.2 r hm; omega
  have RD : Hid (∀ (W' : World) (K' : St), Wa w1 w1.heap.size w1.heap.size K' W' → Reads W' W'.heap.size A1 (strings D)) := Lib.hid fun W' K' h => owns_reads (owns_kp HO.out (p := isLog) (fun _ => rfl) h.gone.kp)
  have A2 := Lib.hid (lg_append (n0 := 0) (I := []) (R := []) x2 l2 L0 A1 cap1 D.length D rfl hsm (by simp [Wl.tot]; omega) (by simp; omega) (fun W' K' h => RD.out W' K' (x2.trans h)))
  clear M L0 l2 x2
  go_wp2_with fail
  refine A2.out.mono ?_
  rintro e w3 ⟨rfl, K1, I1, R1, h3⟩
  obtain ⟨x3, l3, L3, f3, n3, _⟩ := h3.out
  have f3 : (I1 ++ [R1]).flatten = D := f3
  have hI1 : I1.length ≤ 30 := by simp at n3; omega
  have t3 := Wl.tot_flat f3
  have S3 := Lib.hid (lg_segs x3 l3 rfl L3)
  have X3 := Lib.hid x3
  have HL3 := Lib.hid l3
  have LG3 := Lib.hid L3
  have F3 := Lib.hid f3
  clear A2 h3 x3 l3 L3 f3 n3
  go_wp2_with fail
  refine S3.out.mono ?_
  rintro e w4 ⟨v4, rfl, hO4, b4⟩
  obtain ⟨A4, c4, rfl⟩ := own_len hO4
  have X4 := X3.out.below b4
  have L4 := HL3.out.below b4
  have DR := Lib.hid (drop_any X4 L4 LG3.out u hu)
  have HL4 := Lib.hid L4
  rw [nats_len, Wl.firsts_len, show (I1 ++ [R1]).length = I1.length + 1 by simp]
  clear S3 hO4 b4 X4 L4 X3 HL3
  go_wp2_with fail
  refine DR.out.mono ?_
  rintro e w5 ⟨k, K2, rfl, hd⟩
  obtain ⟨hk, L5, hup, hdn, x5, k5⟩ := hd
  have L5 : Lg K2 [119] (0 + Wl.tot (I1.take k)) (I1.drop k) R1 := L5
  have f1 := firsts_zero (0 + Wl.tot (I1.take k)) (I1.drop k) R1
  have f2 : k < I1.length → (Wl.firsts (0 + Wl.tot (I1.take k)) (I1.drop k ++ [R1]))[1]? = some (0 + Wl.tot (I1.take (k + 1))) := fun h => firsts_one_at h 0 R1
  have fl := Wl.firsts_len (0 + Wl.tot (I1.take k)) (I1.drop k ++ [R1])
  rw [List.length_append, List.length_drop] at fl
  have ti : Wl.tot I1 = Wl.tot (I1.take k) + Wl.tot (I1.drop k) := by rw [← Wl.tot_append, List.take_append_drop]
  obtain ⟨m, hm⟩ : ∃ m, 0 + Wl.tot (I1.take k) = m := ⟨_, rfl⟩
  have fE := Lib.hid (drop_is (k := k) (m := m) F3.out (by omega))
  rw [hm] at L5 hup f1 f2 fl
  have HL5 := Lib.hid (HL4.out.kp k5)
  have S5 := Lib.hid (lg_segs x5 HL5.out rfl L5)
  have X5 := Lib.hid x5
  have LG5 := Lib.hid L5
  have hmD : (m : Int) ≤ (D.length : Int) := by omega
  have hmc : (m : Int) ≤ (cap1 : Int) := by omega
  clear DR HL4 x5 k5 L5 LG3
  go_wp2_with fail
  refine S5.out.mono ?_
  rintro e w6 ⟨v6, rfl, hO6, b6⟩
  obtain ⟨A6, c6, rfl, R6⟩ := own_at hO6
  obtain ⟨g, off, rfl, hg, q0, q1⟩ := two_at R6 f1
  have X6 := Lib.hid (X5.out.below b6)
  have HL6 := Lib.hid (HL5.out.below b6)
  have HO6 := Lib.hid hO6
  have FS := Lib.hid (fun (p : Lat grows w6) => lg_first_of (X6.out.below (lat_below p)) (HL6.out.below (lat_below p)) rfl LG5.out)
  obtain ⟨nl, hnl⟩ : ∃ nl, (nats (Wl.firsts m (I1.drop k ++ [R1]))).length = nl := ⟨_, rfl⟩
  have hnl2 : nl = I1.length - k + 1 := by rw [← hnl, nats_len, fl]; simp
  obtain ⟨wl, hwl⟩ : ∃ wl, I1.length + 1 = wl := ⟨_, rfl⟩
  rw [hnl, hwl]
  have s1 : (wl : Int) - (k : Int) = (nl : Int) := by omega
  have s2 : IntKind.i64.wrap (nl : Int) = (nl : Int) := IntWalk.i64_in _ ⟨by omega, by omega⟩
  have p0 : decide ((k : Int) < 0) = false := decide_eq_false (by omega)
  have p1 : decide ((nl : Int) < 1) = false := decide_eq_false (by omega)
  have p2 : (0 : Int) < (nl : Int) := by omega
  have p3 : 0 < nl := by omega
  have fact1 : (decide (0 < k) = true ∧ decide ((0 : Int) < (k : Int)) = true ∧ decide (u < (m : Int)) = false) ∨ (decide (0 < k) = false ∧ decide ((0 : Int) < (k : Int)) = false ∧ True) := by
    by_cases h : 0 < k
    · exact .inl ⟨decide_eq_true h, decide_eq_true (by omega), decide_eq_false (by have := hup h; omega)⟩
    · exact .inr ⟨decide_eq_false h, decide_eq_false (by omega), trivial⟩
  have fact2 : ((decide ((1 : Int) < (nl : Int)) = true ∧ decide (1 < nl) = true) ∧ 1 < nl ∧ (1 : Int) < (nl : Int) ∧ ∃ m1 : Nat, w6.cell? ⟨g, off + 1, none⟩ = some (.int .i64 (m1 : Int)) ∧ decide ((m1 : Int) ≤ u) = false) ∨ (decide ((1 : Int) < (nl : Int)) = false ∧ decide (1 < nl) = false) := by
    by_cases h : k < I1.length
    · exact .inl ⟨⟨decide_eq_true (by omega), decide_eq_true (by omega)⟩, by omega, by omega, _, q1 _ (f2 h), decide_eq_false (by have := hdn h; omega)⟩
    · exact .inr ⟨decide_eq_false (by omega), decide_eq_false (by omega)⟩
  have OP := Lib.hid (fun (W : World) (h : Below w6.heap.size w6 W) => lg_again (X6.out.below h) nm_w LG5.out)
  rw [fE.out, show m + Wl.tot (I1.drop k) + R1.length = D.length by omega] at OP
  have FZ := Lib.hid f1
  clear S5 R6 hO6 b6 q1 f1 f2 hup hdn X5 HL5 hnl hnl2 hwl fl ti t3 hm hk
  rcases fact1 with ⟨e1, e1', e2⟩ | ⟨e1, e1', e2⟩ <;> rcases fact2 with ⟨⟨e3, e3'⟩, e4, e5, m1, e6, e7⟩ | ⟨e3, e4⟩
  all_goals
    go_wp2
    refine Og.grow 47 (by kernel_rfl) (by kernel_rfl) fun hc hf => ?_
    simp only [List.take_succ_cons, List.take_zero, List.drop_succ_cons, List.drop_zero]
    repeat (refine Og.det [] rfl (fun K hK => ?_); (try subst hvf); go_simp; generalize hvf : Value.bool false = vf; first | (refine hK _ _ ?_; clear hK K) | (with_reducible refine ⟨_, fun p => Og.lays (FS.out p), hK _ _ ?_⟩; clear hK K))
    subst hvf
    refine Og.fin fun W hW => ?_
    simp only [Og.opened_nil]
    have O8 := Lib.hid (OP.out W hW)
    have HW := Lib.hid hW
    clear hc hf hW OP FS e1 e1' e2 e3 e4 s1 s2 p0 p1 q0
    go_wp2_with fail
    refine O8.out.mono ?_
    rintro e w9 ⟨b9, v9, K9, rfl, hb9, hv9, x9, l9, k9, L9⟩
    obtain ⟨A9, c9, rfl⟩ := owns_len hv9
    have B69 := Lib.hid (Kp.trans (Kp.below HW.out) k9 : Kp isRef w6 w9)
    have R9 := own_reads (own_kp HO6.out (p := isRef) (fun _ => rfl) B69.out)
    obtain ⟨g', off', hgg, hg9, q0, _⟩ := two_at R9 FZ.out
    obtain ⟨rfl, rfl⟩ : g' = g ∧ off' = off := by simpa [eq_comm] using hgg
    have L9a := Lib.hid ((HL6.out).kp B69.out)
    have HR1 := Lib.hid (fun (p : Lat grows w9) => RD.out p.W K9 (x9.below (lat_below p)))
    rw [List.length_drop] at hv9 ⊢
    have HV9 := Lib.hid hv9
    have hdl : D.length - m = (D.drop m).length := by rw [List.length_drop]
    have S1 := Lib.hid (fun (p : Lat grows w9) (A' : Option Addr) (c' : Nat) (h : Reads p.W p.W.heap.size A' (strings (D.drop m))) => same_owns (c := c') (by omega) hdl (owns_below HV9.out (lat_below p)) h)
    have AL := Lib.hid (fun (p : Lat grows w9) => owns_call (lg_all (x9.below (lat_below p)) (L9a.out.below (lat_below p)) rfl L9))
    rw [fE.out] at AL
    have S2 := Lib.hid (fun (p : Lat grows w9) (v : Value) (h : OwnSP (D.drop m) v p.W) => same_owns (n := D.length - m) (c := c9) (by omega) hdl h (owns_reads (owns_below HV9.out (lat_below p))))
    have FS := Lib.hid (fun (p : Lat grows w9) => lg_first_of (x9.below (lat_below p)) (l9.below (lat_below p)) rfl L9)
    have NX := Lib.hid (fun (p : Lat grows w9) => next_any p.W (l9.below (lat_below p)))
    have AW := Lib.hid (fun (p : Lat grows w9) => awake_any p.W (x9.tabs.below (lat_below p) x9.size) (Nat.le_trans x9.size (lat_below p).size))
    have FIN := Lib.hid (fun (W : World) (h : Below w9.heap.size w9 W) => B1.out.trans ((x9.below h).bel.mono B1.out.size))
    clear O8 hv9 x9 l9 k9 L9 HW HO6 HL6 X6 RD hdl B69 R9 hgg FZ
    by_cases hcm : cap1 = m
    · have S1 := Lib.hid (fun (p : Lat grows w9) (c' : Nat) => S1.out p _ c' (Reads.none (A := A1) m (by omega)))
      go_wp2_with fail
      refine Og.grow 43 (by kernel_rfl) (by kernel_rfl) fun hc hf => ?_
      simp only [List.take_succ_cons, List.take_zero, List.drop_succ_cons, List.drop_zero]
      iterate 21 (refine Og.det [] rfl (fun K hK => ?_); go_simp; first | (refine hK _ _ ?_; clear hK K) | (with_reducible refine ⟨_, fun p => Og.lays (S1.out p _), hK _ _ ?_⟩; clear hK K))
      refine Og.such 110 (OwnSP (D.drop m)) [] rfl (ownSP_lasts _) (ownSP_noBool _) (fun K hK => ?_)
      go_simp
      refine ⟨fun p => AL.out p, hK _ _ ?_⟩
      clear hK K
      refine Og.det [] rfl (fun K hK => ?_)
      go_simp
      refine hK _ _ ?_
      clear hK K
      refine Og.det [(110, OwnSP (D.drop m))] rfl (fun K hK => ?_)
      go_simp
      refine ⟨_, fun p v hv => S2.out p v hv, hK _ _ ?_⟩
      clear hK K
      repeat (refine Og.det [] rfl (fun K hK => ?_); go_simp; first | (refine hK _ _ ?_; clear hK K) | (with_reducible refine ⟨_, fun p => Og.lays (FS.out p), hK _ _ ?_⟩; clear hK K) | (with_reducible refine ⟨_, fun p => Og.same (NX.out p), hK _ _ ?_⟩; clear hK K) | (with_reducible refine ⟨_, fun p => Og.lays (AW.out p), hK _ _ ?_⟩; clear hK K))
      refine Og.fin fun W hW => ?_
      simp only [Og.opened_cons, Og.opened_nil]
      intro v110 _
      clear hc hf
      go_wp2
      go_ret
      exact ⟨rfl, FIN.out _ hW⟩
    · have S1 := Lib.hid (fun (p : Lat grows w9) (c' : Nat) => S1.out p _ c' ((HR1.out p).rest m))
      go_wp2_with fail
      refine Og.grow 43 (by kernel_rfl) (by kernel_rfl) fun hc hf => ?_
      simp only [List.take_succ_cons, List.take_zero, List.drop_succ_cons, List.drop_zero]
      iterate 21 (refine Og.det [] rfl (fun K hK => ?_); go_simp; first | (refine hK _ _ ?_; clear hK K) | (with_reducible refine ⟨_, fun p => Og.lays (S1.out p _), hK _ _ ?_⟩; clear hK K))
      refine Og.such 110 (OwnSP (D.drop m)) [] rfl (ownSP_lasts _) (ownSP_noBool _) (fun K hK => ?_)
      go_simp
      refine ⟨fun p => AL.out p, hK _ _ ?_⟩
      clear hK K
      refine Og.det [] rfl (fun K hK => ?_)
      go_simp
      refine hK _ _ ?_
      clear hK K
      refine Og.det [(110, OwnSP (D.drop m))] rfl (fun K hK => ?_)
      go_simp
      refine ⟨_, fun p v hv => S2.out p v hv, hK _ _ ?_⟩
      clear hK K
      repeat (refine Og.det [] rfl (fun K hK => ?_); go_simp; first | (refine hK _ _ ?_; clear hK K) | (with_reducible refine ⟨_, fun p => Og.lays (FS.out p), hK _ _ ?_⟩; clear hK K) | (with_reducible refine ⟨_, fun p => Og.same (NX.out p), hK _ _ ?_⟩; clear hK K) | (with_reducible refine ⟨_, fun p => Og.lays (AW.out p), hK _ _ ?_⟩; clear hK K))
      refine Og.fin fun W hW => ?_
      simp only [Og.opened_cons, Og.opened_nil]
      intro v110 _
      clear hc hf
      go_wp2
      go_ret
      exact ⟨rfl, FIN.out _ hW⟩
end Go.Proofs.YtpafialojcidnaaGreatDoor
