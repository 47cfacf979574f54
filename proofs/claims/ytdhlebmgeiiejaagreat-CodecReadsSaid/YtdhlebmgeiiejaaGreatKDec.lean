/- CdDecP, CdDec, CdLong, CdAwake, in one text. -/
import Derived.Test.YtdhlebmgeiiejaaGreatKCdReadM
import Derived.Test.YtdhlebmgeiiejaaGreatKCdEnc
import Derived.Test.YtdhlebmgeiiejaaGreatKCdPut
namespace Go.Proofs.YtdhlebmgeiiejaaGreat
open Go Pz Cd
set_option linter.unusedVariables false

namespace Cd
/-- what the code decodes -/
def decC (s : List UInt8) : Option Mn := if (rawM (Rr.of s)).2.bad || (!(rawM (Rr.of s)).2.s.isEmpty || !mayM (rawM (Rr.of s)).1) then none else some (rawM (Rr.of s)).1
theorem onlyN_len {α : Type} {K : Kind α} (h : K.Good) (n : Nat) (q : Rr) (hq : q.Ok) (hb : (K.takeN n q).2.bad = false) : (K.takeN n q).1.length = n := (h.onlyN n q hq hb).2.1
/-- a list that may have one thing, read as one that may have more: the same, or none, or too long -/
theorem takeL_one {α : Type} {K : Kind α} (h : K.Good) (q : Rr) (hq : q.Ok) : K.takeL 1 q = K.takeL 1024 q ∨ ((K.takeL 1 q).2.bad = true ∧ ((K.takeL 1024 q).2.bad = true ∨ 2 ≤ (K.takeL 1024 q).1.length)) := by
  unfold Kind.takeL
  simp only
  by_cases h1 : (tInt q).1 < 0 ∨ 1 < (tInt q).1
  · rw [if_pos h1]
    by_cases h2 : (tInt q).1 < 0 ∨ 1024 < (tInt q).1
    · rw [if_pos h2]; exact .inl rfl
    · rw [if_neg h2]
      refine .inr ⟨rfl, ?_⟩
      split
      · exact .inl rfl
      · rename_i hb
        have hb : (K.takeN (tInt q).1.toNat (tInt q).2).2.bad = false := by simpa using hb
        have := onlyN_len h _ _ (tInt_ok q hq) hb
        exact .inr (by rw [this]; omega)
  · have h2 : ¬ ((tInt q).1 < 0 ∨ 1024 < (tInt q).1) := by omega
    rw [if_neg h1, if_neg h2]
    exact .inl rfl
theorem raw_takeLs (k : Int) (q : Rr) (hq : q.Ok) : rawLs k q = takeLs k q ∨ (k = 7 ∧ (rawLs k q).2.bad = true ∧ ((takeLs k q).2.bad = true ∨ (takeLs k q).1.2.1.length ≠ 1)) := by
  unfold rawLs takeLs
  by_cases h1 : k = 1
  · rw [if_pos h1, if_pos h1]; exact .inl rfl
  · rw [if_neg h1, if_neg h1]
    by_cases h4 : k = 4
    · rw [if_pos h4, if_pos h4]; exact .inl rfl
    · rw [if_neg h4, if_neg h4]
      by_cases h7 : k = 7
      · rw [if_pos h7, if_pos (.inl h7)]
        rcases takeL_one goodB q hq with e | ⟨e1, e2⟩
        · rw [e]; exact .inl rfl
        · refine .inr ⟨h7, e1, ?_⟩
          rcases e2 with e2 | e2
          · exact .inl e2
          · refine .inr ?_
            show (kB.takeL 1024 q).1.length ≠ 1
            omega
      · rw [if_neg h7]
        by_cases h12 : k = 12
        · rw [if_pos h12, if_pos (.inr h12)]; exact .inl rfl
        · rw [if_neg h12, if_neg (by omega)]; exact .inl rfl
theorem rawM_is (q : Rr) (hq : q.Ok) : rawM q = takeM0 q ∨ ((rawM q).2.bad = true ∧ ((takeM0 q).2.bad = true ∨ mayM (takeM0 q).1 = false)) := by
  have hn : (optT (hasN (tInt q).1) (optT (hasT (tInt q).1) (tInt q).2).2).2.Ok := optT_ok _ _ (optT_ok _ _ (tInt_ok q hq))
  rcases raw_takeLs (tInt q).1 _ hn with e | ⟨h7, e1, e2⟩
  · refine .inl ?_
    unfold rawM takeM0
    simp only [e]
  · refine .inr ⟨e1, ?_⟩
    rcases e2 with e2 | e2
    · exact .inl e2
    · refine .inr ?_
      cases hm : mayM (takeM0 q).1 with
      | false => rfl
      | true => exact absurd (((mayM_is _).1 hm).one h7) e2
theorem decC_is (s : List UInt8) : decC s = decM s := by
  unfold decC decM
  rcases rawM_is (Rr.of s) (fun h => by cases h) with e | ⟨h1, h2⟩
  · rw [e]
  · rw [h1, if_pos (by rfl), if_pos]
    rcases h2 with h2 | h2
    · rw [h2]; rfl
    · rw [h2]; simp
end Cd
end Go.Proofs.YtdhlebmgeiiejaaGreat
namespace Go.Proofs.YtdhlebmgeiiejaaGreat
open Go.RowKit Pz Cd
set_option linter.unusedVariables false
set_option linter.unusedSimpArgs false

namespace Cd
theorem takeN_le {α : Type} {K : Kind α} : ∀ (n : Nat) (q : Rr), (K.takeN n q).1.length ≤ n
  | 0, q => Nat.le_refl _
  | n + 1, q => by
    unfold Kind.takeN
    split
    · exact Nat.zero_le _
    · have := takeN_le (K := K) n (K.take q).2
      simp only [List.length_cons]
      omega
theorem takeL_le {α : Type} {K : Kind α} (most : Int) (q : Rr) (hm : most ≤ 1024) : (K.takeL most q).1.length ≤ 1024 := by
  unfold Kind.takeL
  simp only
  split
  · exact Nat.zero_le _
  · split
    · exact Nat.zero_le _
    · rename_i h _
      have := takeN_le (K := K) (tInt q).1.toNat (tInt q).2
      omega
theorem rawLs_le (k : Int) (q : Rr) : (rawLs k q).1.1.length ≤ 1024 ∧ (rawLs k q).1.2.1.length ≤ 1024 ∧ (rawLs k q).1.2.2.length ≤ 1024 := by
  unfold rawLs
  split
  · exact ⟨takeL_le _ _ (by decide), Nat.zero_le _, Nat.zero_le _⟩
  · split
    · exact ⟨Nat.zero_le _, Nat.zero_le _, takeL_le _ _ (by decide)⟩
    · split
      · exact ⟨Nat.zero_le _, takeL_le _ _ (by decide), Nat.zero_le _⟩
      · split
        · exact ⟨Nat.zero_le _, takeL_le _ _ (by decide), Nat.zero_le _⟩
        · exact ⟨Nat.zero_le _, Nat.zero_le _, Nat.zero_le _⟩
def zeroV : Value := .agg #[.int .i64 0, .int .i64 0, .int .i64 0, .slice none 0 0, .slice none 0 0, .slice none 0 0]
end Cd
/-- what Decode answers -/
def DecR (s : List UInt8) (B : Nat) (e : Ending) (W : World) : Prop :=
  match decC s with
  | none => e = .returned (.tuple #[zeroV, .int .i64 2])
  | some m => ∃ v, e = .returned (.tuple #[v, .int .i64 0]) ∧ MsgOwn W B m v
set_option maxHeartbeats 16000000 in
set_option maxRecDepth 100000 in
theorem cdecode_any (s : List UInt8) (hl : s.length ≤ 140737489351232) (w : World) : Calls Tryz.prog 32 #[.string ⟨s.toArray⟩] w fun e w' => DecR s w.heap.size e w' ∧ Below w.heap.size w w' := by
  have OF := Lib.hid fun W => of_any s W (by omega)
  have RM : Hid (∀ b W, CQ b W (Rr.of s) W → Calls Tryz.prog 75 #[.pointer (some ⟨b, 0, none⟩)] W fun e W' => (∃ v, e = .returned v ∧ MsgOwn W' W.heap.size (rawM (Rr.of s)).1 v) ∧ CQ b W (rawM (Rr.of s)).2 W') := Lib.hid fun b W hW => creadmsg_any hW
  have RL := rawLs_le (tInt (Rr.of s)).1 (optT (hasN (tInt (Rr.of s)).1) (optT (hasT (tInt (Rr.of s)).1) (tInt (Rr.of s)).2).2).2
  have RL2 : (rawM (Rr.of s)).1.c.length ≤ 1024 ∧ (rawM (Rr.of s)).1.b.length ≤ 1024 ∧ (rawM (Rr.of s)).1.i.length ≤ 1024 := RL
  clear RL
  have HD : Hid (decC s = if (rawM (Rr.of s)).2.bad || (!(rawM (Rr.of s)).2.s.isEmpty || !mayM (rawM (Rr.of s)).1) then none else some (rawM (Rr.of s)).1) := Lib.hid rfl
  generalize rawM (Rr.of s) = rm at *
  obtain ⟨m, q9⟩ := rm
  simp only at RM RL2 HD
  have B0 := Lib.hid (at1 w (.cells #[.int .i64 0, .int .i64 0, .int .i64 0, .slice none 0 0, .slice none 0 0, .slice none 0 0] MT))
  have HB := Lib.hid (bel1 w (.cells #[.int .i64 0, .int .i64 0, .int .i64 0, .slice none 0 0, .slice none 0 0, .slice none 0 0] MT))
  have DRN : Hid (decC s = none → ∀ W, DecR s w.heap.size (.returned (.tuple #[zeroV, .int .i64 2])) W) := Lib.hid fun h W => by unfold DecR; rw [h]
  have DRS : Hid (decC s = some m → ∀ W v, MsgOwn W w.heap.size m v → DecR s w.heap.size (.returned (.tuple #[v, .int .i64 0])) W) := Lib.hid fun h W v ho => by unfold DecR; rw [h]; exact ⟨v, rfl, ho⟩
  generalize hDR : DecR s w.heap.size = DR at *
  clear hDR
  generalize decC s = dd at *
  go_enter Tryz.func32, Tryz.ntmps32
  go_wp2_with fail
  generalize w.alloc (.cells #[.int .i64 0, .int .i64 0, .int .i64 0, .slice none 0 0, .slice none 0 0, .slice none 0 0] MT) = w1 at *
  refine (OF.out _).mono ?_
  rintro e w2 ⟨b, rfl, rd, hlo, hb⟩
  replace B0 := Lib.hid ((hb.block _ (lt_of_row B0.out)).trans B0.out)
  have hs1 := HB.out.size
  replace HB := Lib.hid (HB.out.trans (hb.mono hs1))
  have hR := RX.start (q := Rr.of s) rd (fun h => by cases h) (by show s.length ≤ _; omega)
  have hwb : w.heap.size ≤ b := by omega
  have hne : w.heap.size ≠ b := Bx.ne_type B0.out rd (by decide)
  clear hb rd OF hlo
  go_wp2_with fail
  refine (RM.out b w2 hR).mono ?_
  rintro e w3 ⟨⟨v, rfl, hmo⟩, r3⟩
  have hs2 := HB.out.size
  have HB3 := Lib.hid (HB.out.grown r3.grow hs2 (fun k e => by cases e; exact hwb))
  replace B0 := Lib.hid ((r3.grow.block _ (lt_of_row B0.out) (by simp; omega)).trans B0.out)
  obtain ⟨vc, vb, vi, rfl, hc, hb, hi⟩ := hmo
  obtain ⟨A1, c1, rfl⟩ := hc.form
  obtain ⟨A2, c2, rfl⟩ := hb.form
  obtain ⟨A3, c3, rfl⟩ := hi.form
  have MA : MsgAt m A1 A2 A3 w3 := ⟨RdC.of_own hc, RdB.of_own hb, RdI3.of_own hi, by omega, by omega, by omega⟩
  have CM : Hid (∀ W, Below w3.heap.size w3 W → Calls Tryz.prog 31 #[msgV m A1 c1 A2 c2 A3 c3] W fun e w' => e = .returned (.int .i64 (errB (mayM m))) ∧ Below W.heap.size W w') := Lib.hid fun W hW => checkmsg_any (MA.below hW)
  have OWN : Hid (∀ W W', Below w3.heap.size w3 W → (∀ (k : Nat) (cur : Array Value), W.heap[k]? = some (.cells cur 38 (0, 0)) ∨ W.heap[k]? = some (.cells cur 34 (0, 0)) ∨ W.heap[k]? = some (.cells cur 29 (0, 0)) → W'.heap[k]? = W.heap[k]?) → MsgOwn W' w.heap.size m (msgV m A1 c1 A2 c2 A3 c3)) := Lib.hid fun W W' hW hk =>
    ⟨_, _, _, rfl, ((hc.below hW).kept (fun k e => by obtain ⟨_, cur, h⟩ := (hc.below hW).blk e; exact hk k cur (.inl h))).base hs2, ((hb.below hW).kept (fun k e => by obtain ⟨_, cur, h⟩ := (hb.below hW).blk e; exact hk k cur (.inr (.inl h)))).base hs2, ((hi.below hW).kept (fun k e => by obtain ⟨_, cur, h⟩ := (hi.below hW).blk e; exact hk k cur (.inr (.inr h)))).base hs2⟩
  have r3r := r3.rd
  have r3ok := r3.ok
  clear hc hb hi MA hR RM HB hs1 RL2
  obtain ⟨s9, b9⟩ := q9
  simp only at r3r HD r3ok
  obtain ⟨k, t, n, lc, lb, li⟩ := m
  simp only [msgV] at *
  have DN : Hid (∀ W, Rdr 74 b s9 b9 W → Calls Tryz.prog 43 #[.pointer (some ⟨b, 0, none⟩)] W fun e w' => e = .returned (.int .i64 (oDone s9 b9)) ∧ W = w') := Lib.hid fun W hW => done_any b s9 b9 W hW
  obtain ⟨rmay, hrm⟩ : ∃ r, mayM ⟨k, t, n, lc, lb, li⟩ = r := ⟨_, rfl⟩
  rw [hrm] at HD CM
  clear hrm
  generalize hl1 : lc.length = l1 at *
  generalize hl2 : lb.length = l2 at *
  generalize hl3 : li.length = l3 at *
  clear hl1 hl2 hl3
  go_upto_region 3 with fail
  have B5 := Lib.hid (at1 w3 (.cells #[.int .i64 k, .int .i64 t, .int .i64 n, .slice A1 l1 c1, .slice A2 l2 c2, .slice A3 l3 c3] MT))
  have HA := Lib.hid (bel1 w3 (.cells #[.int .i64 k, .int .i64 t, .int .i64 n, .slice A1 l1 c1, .slice A2 l2 c2, .slice A3 l3 c3] MT))
  have r4 := r3r.below HA.out (lt_of_row r3r)
  replace B0 := Lib.hid ((HA.out.block _ (lt_of_row B0.out)).trans B0.out)
  have HB4 := Lib.hid (HB3.out.trans (HA.out.mono HB3.out.size))
  have hs5 := HA.out.size
  generalize w3.alloc (.cells #[.int .i64 k, .int .i64 t, .int .i64 n, .slice A1 l1 c1, .slice A2 l2 c2, .slice A3 l3 c3] MT) = w4 at *
  generalize ho5 : w3.heap.size = o5 at *
  clear ho5
  have DN1 := Lib.hid (DN.out w4 r4)
  clear DN r4 r3 r3r
  cases hbad : (b9 || !s9.isEmpty) with
  | true =>
    have e2 : oDone s9 b9 = 2 := by
      unfold oDone
      rw [if_neg]
      rintro ⟨h1, h2⟩
      rw [h1, h2] at hbad
      cases hbad
    rw [e2] at DN1
    have DX := DRN.out (by rw [HD.out, ← Bool.or_assoc, hbad]; rfl)
    have DX := DX ((((((w4.setCell ⟨w.heap.size, 0, none⟩ (.int .i64 0)).setCell ⟨w.heap.size, 1, none⟩ (.int .i64 0)).setCell ⟨w.heap.size, 2, none⟩ (.int .i64 0)).setCell ⟨w.heap.size, 3, none⟩ (.slice none 0 0)).setCell ⟨w.heap.size, 4, none⟩ (.slice none 0 0)).setCell ⟨w.heap.size, 5, none⟩ (.slice none 0 0))
    clear e2 hbad CM OWN DRN DRS HD HA B5 HB3
    go_wp2_with fail
    refine DN1.out.mono ?_
    rintro e w5 ⟨rfl, rfl⟩
    clear DN1
    obtain ⟨⟨z0, z1, z2, z3, z4, z5⟩, ⟨f0, f1, f2, f3, f4, f5⟩⟩ := Bx.b6 B0.out
    have HP := Lib.hid (Bx.b6 (Bx.set6 B0.out (.int .i64 0) (.int .i64 0) (.int .i64 0) (.slice none 0 0) (.slice none 0 0) (.slice none 0 0))).1
    have HQ := Lib.hid ((((((HB4.out.setCell (p := ⟨w.heap.size, 0, none⟩) (Nat.le_refl _) (.int .i64 0)).setCell (p := ⟨w.heap.size, 1, none⟩) (Nat.le_refl _) (.int .i64 0)).setCell (p := ⟨w.heap.size, 2, none⟩) (Nat.le_refl _) (.int .i64 0)).setCell (p := ⟨w.heap.size, 3, none⟩) (Nat.le_refl _) (.slice none 0 0)).setCell (p := ⟨w.heap.size, 4, none⟩) (Nat.le_refl _) (.slice none 0 0)).setCell (p := ⟨w.heap.size, 5, none⟩) (Nat.le_refl _) (.slice none 0 0))
    clear B0
    go_wp2
    obtain ⟨p0, p1, p2, p3, p4, p5⟩ := HP.out
    exact bodyPost_ret (v := .tuple #[.agg #[.int .i64 0, .int .i64 0, .int .i64 0, .slice none 0 0, .slice none 0 0, .slice none 0 0], .int .i64 2]) (by simp [results, Tryz.results32, go_sem, p0, p1, p2, p3, p4, p5]) rfl ⟨DX, HQ.out⟩
  | false =>
    have e2 : oDone s9 b9 = 0 := by
      unfold oDone
      rw [Bool.or_eq_false_iff] at hbad
      rw [if_pos ⟨hbad.1, by have := hbad.2; simpa using this⟩]
    rw [e2] at DN1
    clear e2
    have CM4 := Lib.hid (CM.out w4 HA.out)
    obtain ⟨⟨k0, k1, k2, k3, k4, k5⟩, _⟩ := Bx.b6 B5.out
    cases rmay with
    | false =>
      rw [show errB false = 1 from rfl] at CM4
      have DX := DRN.out (by rw [HD.out, ← Bool.or_assoc, hbad]; rfl)
      clear hbad CM DRN DRS HD OWN
      go_wp2_with fail
      refine DN1.out.mono ?_
      rintro e w5 ⟨rfl, rfl⟩
      clear DN1
      go_wp2_with fail
      refine CM4.out.mono ?_
      rintro e w6 ⟨rfl, hb6⟩
      replace B0 := Lib.hid ((hb6.block _ (lt_of_row B0.out)).trans B0.out)
      replace B5 := Lib.hid ((hb6.block _ (lt_of_row B5.out)).trans B5.out)
      have HB6 := Lib.hid (HB4.out.trans (hb6.mono HB4.out.size))
      clear k0 k1 k2 k3 k4 k5 CM4
      have DX := DX ((((((w6.setCell ⟨w.heap.size, 0, none⟩ (.int .i64 0)).setCell ⟨w.heap.size, 1, none⟩ (.int .i64 0)).setCell ⟨w.heap.size, 2, none⟩ (.int .i64 0)).setCell ⟨w.heap.size, 3, none⟩ (.slice none 0 0)).setCell ⟨w.heap.size, 4, none⟩ (.slice none 0 0)).setCell ⟨w.heap.size, 5, none⟩ (.slice none 0 0))
      clear hb6 HA B5 HB3 HB4
      obtain ⟨⟨z0, z1, z2, z3, z4, z5⟩, ⟨f0, f1, f2, f3, f4, f5⟩⟩ := Bx.b6 B0.out
      have HP := Lib.hid (Bx.b6 (Bx.set6 B0.out (.int .i64 0) (.int .i64 0) (.int .i64 0) (.slice none 0 0) (.slice none 0 0) (.slice none 0 0))).1
      have HQ := Lib.hid ((((((HB6.out.setCell (p := ⟨w.heap.size, 0, none⟩) (Nat.le_refl _) (.int .i64 0)).setCell (p := ⟨w.heap.size, 1, none⟩) (Nat.le_refl _) (.int .i64 0)).setCell (p := ⟨w.heap.size, 2, none⟩) (Nat.le_refl _) (.int .i64 0)).setCell (p := ⟨w.heap.size, 3, none⟩) (Nat.le_refl _) (.slice none 0 0)).setCell (p := ⟨w.heap.size, 4, none⟩) (Nat.le_refl _) (.slice none 0 0)).setCell (p := ⟨w.heap.size, 5, none⟩) (Nat.le_refl _) (.slice none 0 0))
      clear B0
      go_wp2
      obtain ⟨p0, p1, p2, p3, p4, p5⟩ := HP.out
      exact bodyPost_ret (v := .tuple #[.agg #[.int .i64 0, .int .i64 0, .int .i64 0, .slice none 0 0, .slice none 0 0, .slice none 0 0], .int .i64 2]) (by simp [results, Tryz.results32, go_sem, p0, p1, p2, p3, p4, p5]) rfl ⟨DX, HQ.out⟩
    | true =>
      rw [show errB true = 0 from rfl] at CM4
      have DX := DRS.out (by rw [HD.out, ← Bool.or_assoc, hbad]; rfl)
      clear hbad CM DRN DRS HD
      go_wp2_with fail
      refine DN1.out.mono ?_
      rintro e w5 ⟨rfl, rfl⟩
      clear DN1
      go_wp2_with fail
      refine CM4.out.mono ?_
      rintro e w6 ⟨rfl, hb6⟩
      replace B0 := Lib.hid ((hb6.block _ (lt_of_row B0.out)).trans B0.out)
      replace B5 := Lib.hid ((hb6.block _ (lt_of_row B5.out)).trans B5.out)
      have HB6 := Lib.hid (HB4.out.trans (hb6.mono HB4.out.size))
      clear k0 k1 k2 k3 k4 k5 CM4
      have hW6 := HA.out.trans (hb6.mono hs5)
      have DX := fun (W9 : World) (h9 : ∀ k : Nat, k ≠ w.heap.size → W9.heap[k]? = w6.heap[k]?) => DX W9 _ (OWN.out w6 W9 hW6 (fun k cur h => h9 k (by rcases h with h | h | h <;> exact Bx.ne_type h B0.out (by decide))))
      obtain ⟨W9, hw9⟩ : ∃ W9, W9 = ((((((w6.setCell ⟨w.heap.size, 0, none⟩ (.int .i64 k)).setCell ⟨w.heap.size, 1, none⟩ (.int .i64 t)).setCell ⟨w.heap.size, 2, none⟩ (.int .i64 n)).setCell ⟨w.heap.size, 3, none⟩ (.slice A1 l1 c1)).setCell ⟨w.heap.size, 4, none⟩ (.slice A2 l2 c2)).setCell ⟨w.heap.size, 5, none⟩ (.slice A3 l3 c3)) := ⟨_, rfl⟩
      have hN : ∀ k : Nat, k ≠ w.heap.size → W9.heap[k]? = w6.heap[k]? := by
        intro k hk
        rw [hw9]
        repeat rw [Bx.ne hk]
      have DX := DX W9 hN
      clear hN
      subst hw9
      clear hb6 HA HB3 HB4 OWN hW6
      obtain ⟨⟨k0, k1, k2, k3, k4, k5⟩, _⟩ := Bx.b6 B5.out
      obtain ⟨⟨z0, z1, z2, z3, z4, z5⟩, ⟨f0, f1, f2, f3, f4, f5⟩⟩ := Bx.b6 B0.out
      have HP := Lib.hid (Bx.b6 (Bx.set6 B0.out (.int .i64 k) (.int .i64 t) (.int .i64 n) (.slice A1 l1 c1) (.slice A2 l2 c2) (.slice A3 l3 c3))).1
      have HQ := Lib.hid ((((((HB6.out.setCell (p := ⟨w.heap.size, 0, none⟩) (Nat.le_refl _) (.int .i64 k)).setCell (p := ⟨w.heap.size, 1, none⟩) (Nat.le_refl _) (.int .i64 t)).setCell (p := ⟨w.heap.size, 2, none⟩) (Nat.le_refl _) (.int .i64 n)).setCell (p := ⟨w.heap.size, 3, none⟩) (Nat.le_refl _) (.slice A1 l1 c1)).setCell (p := ⟨w.heap.size, 4, none⟩) (Nat.le_refl _) (.slice A2 l2 c2)).setCell (p := ⟨w.heap.size, 5, none⟩) (Nat.le_refl _) (.slice A3 l3 c3))
      clear B0
      go_wp2
      obtain ⟨p0, p1, p2, p3, p4, p5⟩ := HP.out
      exact bodyPost_ret (v := .tuple #[.agg #[.int .i64 k, .int .i64 t, .int .i64 n, .slice A1 l1 c1, .slice A2 l2 c2, .slice A3 l3 c3], .int .i64 0]) (by simp [results, Tryz.results32, go_sem, p0, p1, p2, p3, p4, p5]) rfl ⟨DX, HQ.out⟩
end Go.Proofs.YtdhlebmgeiiejaaGreat
namespace Go.Proofs.YtdhlebmgeiiejaaGreat
open Go.RowKit Pz Cd
set_option linter.unusedVariables false
set_option linter.unusedSimpArgs false

def Cd.longB (m : Mn) : Bool := decide (1100 < m.c.length) || (decide (1100 < m.b.length) || decide (1100 < m.i.length))
theorem Cd.long_no {m : Mn} (h : mayM m = true) : longB m = false := by
  have mm := (mayM_is m).1 h
  have h1 := okL_len mm.oc
  have h2 := okL_len mm.ob
  have h3 := okL_len mm.oi
  unfold longB
  rw [decide_eq_false (by omega), decide_eq_false (by omega), decide_eq_false (by omega)]
  rfl
theorem Cd.long_may {m : Mn} (h : longB m = true) : mayM m = false := by
  cases hm : mayM m with
  | false => rfl
  | true => rw [long_no hm] at h; cases h
theorem Cd.enc_len {m : Mn} (h : mayM m = true) : (encM m).length ≤ 300000 := by
  have mm := (mayM_is m).1 h
  have h1 := okL_len mm.oc
  have h2 := okL_len mm.ob
  have h3 := okL_len mm.oi
  have p1 := puts_len_c m.c
  have p2 := puts_len_b m.b
  have p3 := puts_len_id m.i
  have e1 := Oct.enc_length_le (m.c.length : Int)
  have e2 := Oct.enc_length_le (m.b.length : Int)
  have e3 := Oct.enc_length_le (m.i.length : Int)
  have e4 := Oct.enc_length_le m.k
  have e5 := Oct.enc_length_le m.t
  have e6 := Oct.enc_length_le m.n
  have a1 : (kC.putL m.c).length ≤ 206000 := by unfold Kind.putL; rw [List.length_append]; omega
  have a2 : (kB.putL m.b).length ≤ 206000 := by unfold Kind.putL; rw [List.length_append]; omega
  have a3 : (kID.putL m.i).length ≤ 206000 := by unfold Kind.putL; rw [List.length_append]; omega
  have a4 : (lists m.k m.c m.b m.i).length ≤ 206000 := by
    unfold lists
    split
    · exact a1
    · split
      · exact a3
      · split
        · exact a2
        · exact Nat.zero_le _
  have a5 : (optP (hasT m.k) m.t).length ≤ 9 := by unfold optP; split; exact e5; exact Nat.zero_le _
  have a6 : (optP (hasN m.k) m.n).length ≤ 9 := by unfold optP; split; exact e6; exact Nat.zero_le _
  unfold encM
  simp only [List.length_append]
  omega
set_option maxHeartbeats 8000000 in
theorem long_any (m : Mn) (A1 A2 A3 : Option Addr) (c1 c2 c3 : Nat) (w : World) : Calls Tryz.prog 28 #[msgV m A1 c1 A2 c2 A3 c3] w fun e w' => e = .returned (.bool (longB m)) ∧ Below w.heap.size w w' := by
  obtain ⟨k, t, n, lc, lb, li⟩ := m
  simp only [msgV, longB]
  generalize lc.length = l1 at *
  generalize lb.length = l2 at *
  generalize li.length = l3 at *
  have T1 := Lib.hid (at1 w (.cells #[.int .i64 k, .int .i64 t, .int .i64 n, .slice A1 l1 c1, .slice A2 l2 c2, .slice A3 l3 c3] MT))
  have BE := Lib.hid (bel1 w (.cells #[.int .i64 k, .int .i64 t, .int .i64 n, .slice A1 l1 c1, .slice A2 l2 c2, .slice A3 l3 c3] MT))
  have e1 : decide ((l1 : Int) > 1100) = decide (1100 < l1) := decide_eq_decide.2 (by omega)
  have e2 : decide ((l2 : Int) > 1100) = decide (1100 < l2) := decide_eq_decide.2 (by omega)
  have e3 : decide ((l3 : Int) > 1100) = decide (1100 < l3) := decide_eq_decide.2 (by omega)
  generalize decide (1100 < l1) = z1 at *
  generalize decide (1100 < l2) = z2 at *
  generalize decide (1100 < l3) = z3 at *
  cases z1 with
  | true =>
    go_enter Tryz.func28, Tryz.ntmps28
    go_upto_region 1 with fail
    generalize w.alloc (.cells #[.int .i64 k, .int .i64 t, .int .i64 n, .slice A1 l1 c1, .slice A2 l2 c2, .slice A3 l3 c3] MT) = w1 at *
    obtain ⟨⟨m0, m1, m2, m3, m4, m5⟩, _⟩ := Bx.b6 T1.out
    go_wp2
    go_ret
    exact ⟨rfl, BE.out⟩
  | false =>
    cases z2 with
    | true =>
      go_enter Tryz.func28, Tryz.ntmps28
      go_upto_region 1 with fail
      generalize w.alloc (.cells #[.int .i64 k, .int .i64 t, .int .i64 n, .slice A1 l1 c1, .slice A2 l2 c2, .slice A3 l3 c3] MT) = w1 at *
      obtain ⟨⟨m0, m1, m2, m3, m4, m5⟩, _⟩ := Bx.b6 T1.out
      go_wp2
      go_ret
      exact ⟨rfl, BE.out⟩
    | false =>
      cases z3 with
      | true =>
        go_enter Tryz.func28, Tryz.ntmps28
        go_upto_region 1 with fail
        generalize w.alloc (.cells #[.int .i64 k, .int .i64 t, .int .i64 n, .slice A1 l1 c1, .slice A2 l2 c2, .slice A3 l3 c3] MT) = w1 at *
        obtain ⟨⟨m0, m1, m2, m3, m4, m5⟩, _⟩ := Bx.b6 T1.out
        go_wp2
        go_ret
        exact ⟨rfl, BE.out⟩
      | false =>
        go_enter Tryz.func28, Tryz.ntmps28
        go_upto_region 1 with fail
        generalize w.alloc (.cells #[.int .i64 k, .int .i64 t, .int .i64 n, .slice A1 l1 c1, .slice A2 l2 c2, .slice A3 l3 c3] MT) = w1 at *
        obtain ⟨⟨m0, m1, m2, m3, m4, m5⟩, _⟩ := Bx.b6 T1.out
        go_wp2
        go_ret
        exact ⟨rfl, BE.out⟩
end Go.Proofs.YtdhlebmgeiiejaaGreat
namespace Go.Proofs.YtdhlebmgeiiejaaGreat
open Go.RowKit Pz Cd
set_option linter.unusedVariables false
set_option linter.unusedSimpArgs false

namespace Cd
def mA : Mn := ⟨2, 1, 0, [], [], []⟩
def mZ : Mn := ⟨2, 0, 0, [], [], []⟩
theorem put_ex : putB ⟨1, 0, 0, 5, 3, -1, 0, 0, 9, 0, 0⟩ = [1, 1, 0, 0, 1, 5, 1, 3, 128, 1, 9] := by decide
theorem mA_may : mayM mA = true := by decide
theorem mZ_may : mayM mZ = false := by decide
theorem mA_enc : encM mA = [1, 2, 1, 1] := by decide
theorem mA_dec : decC [1, 2, 1, 1] = some mA := by
  rw [decC_is, ← mA_enc]
  exact dec_enc mA_may
end Cd
theorem msgAt_none (k t n : Int) (W : World) : MsgAt ⟨k, t, n, [], [], []⟩ none none none W :=
  ⟨fun j x hx => by simp at hx, fun j x hx => by simp at hx, fun j x hx => by simp at hx, by simp, by simp, by simp⟩
set_option maxHeartbeats 16000000 in
set_option maxRecDepth 100000 in
theorem awake_any (w : World) : Calls Tryz.prog 7 #[] w fun e w' => e = .returned (.bool true) ∧ Below w.heap.size w w' := by
  have CP : Hid (∀ W, Calls Tryz.prog 17 #[.agg #[.int .i64 1, .int .i64 0, .int .i64 0, .int .i64 5, .int .i64 3, .int .i64 (-1), .int .i64 0, .int .i64 0, .int .i64 9, .int .i64 0, .int .i64 0]] W fun e w' => e = .returned (.string ⟨#[1, 1, 0, 0, 1, 5, 1, 3, 128, 1, 9]⟩) ∧ Below W.heap.size W w') := Lib.hid fun W => by
    have := cput_b ⟨1, 0, 0, 5, 3, -1, 0, 0, 9, 0, 0⟩ W
    rw [put_ex] at this
    exact this
  have E1 : Hid (∀ W, Calls Tryz.prog 29 #[.agg #[.int .i64 2, .int .i64 1, .int .i64 0, .slice none 0 0, .slice none 0 0, .slice none 0 0]] W fun e w' => e = .returned (.tuple #[.string ⟨#[1, 2, 1, 1]⟩, .int .i64 0]) ∧ Below W.heap.size W w') := Lib.hid fun W => by
    have := encode_any (c1 := 0) (c2 := 0) (c3 := 0) (msgAt_none 2 1 0 W)
    unfold encR at this
    rw [if_pos (show mayM ⟨2, 1, 0, [], [], []⟩ = true from mA_may), show encM ⟨2, 1, 0, [], [], []⟩ = _ from mA_enc] at this
    exact this
  have E0 : Hid (∀ W, Calls Tryz.prog 29 #[.agg #[.int .i64 2, .int .i64 0, .int .i64 0, .slice none 0 0, .slice none 0 0, .slice none 0 0]] W fun e w' => e = .returned (.tuple #[.string ⟨#[]⟩, .int .i64 1]) ∧ Below W.heap.size W w') := Lib.hid fun W => by
    have := encode_any (c1 := 0) (c2 := 0) (c3 := 0) (msgAt_none 2 0 0 W)
    unfold encR at this
    rw [if_neg (show ¬ mayM ⟨2, 0, 0, [], [], []⟩ = true by rw [show mayM ⟨2, 0, 0, [], [], []⟩ = _ from mZ_may]; decide)] at this
    exact this
  have D1 : Hid (∀ W, Calls Tryz.prog 32 #[.string ⟨#[1, 2, 1, 1]⟩] W fun e w' => (∃ A1 A2 A3 c1 c2 c3, e = .returned (.tuple #[.agg #[.int .i64 2, .int .i64 1, .int .i64 0, .slice A1 0 c1, .slice A2 0 c2, .slice A3 0 c3], .int .i64 0])) ∧ Below W.heap.size W w') := Lib.hid fun W => by
    refine (cdecode_any [1, 2, 1, 1] (by decide) W).mono ?_
    rintro e w' ⟨hd, hb⟩
    refine ⟨?_, hb⟩
    unfold DecR at hd
    rw [mA_dec] at hd
    obtain ⟨v, rfl, vc, vb, vi, rfl, hc, hb2, hi⟩ := hd
    obtain ⟨A1, c1, rfl⟩ := hc.form
    obtain ⟨A2, c2, rfl⟩ := hb2.form
    obtain ⟨A3, c3, rfl⟩ := hi.form
    exact ⟨A1, A2, A3, c1, c2, c3, rfl⟩
  have B1 := Lib.hid (at1 w (.cells #[.int .i64 1, .int .i64 0, .int .i64 0, .int .i64 5, .int .i64 3, .int .i64 (-1), .int .i64 0, .int .i64 0, .int .i64 9, .int .i64 0, .int .i64 0] 34))
  have HB := Lib.hid (bel1 w (.cells #[.int .i64 1, .int .i64 0, .int .i64 0, .int .i64 5, .int .i64 3, .int .i64 (-1), .int .i64 0, .int .i64 0, .int .i64 9, .int .i64 0, .int .i64 0] 34))
  go_enter Tryz.func7, Tryz.ntmps7
  go_wp2_with fail
  generalize w.alloc (.cells #[.int .i64 1, .int .i64 0, .int .i64 0, .int .i64 5, .int .i64 3, .int .i64 (-1), .int .i64 0, .int .i64 0, .int .i64 9, .int .i64 0, .int .i64 0] 34) = w1 at *
  refine (E1.out w1).mono ?_
  rintro e w2 ⟨rfl, hb⟩
  replace B1 := Lib.hid ((hb.block _ (lt_of_row B1.out)).trans B1.out)
  replace HB := Lib.hid (HB.out.trans (hb.mono HB.out.size))
  clear hb E1
  go_wp2_with fail
  refine (E0.out w2).mono ?_
  rintro e w3 ⟨rfl, hb⟩
  replace B1 := Lib.hid ((hb.block _ (lt_of_row B1.out)).trans B1.out)
  replace HB := Lib.hid (HB.out.trans (hb.mono HB.out.size))
  clear hb E0
  go_wp2_with fail
  refine (D1.out w3).mono ?_
  rintro e w4 ⟨⟨A1, A2, A3, c1, c2, c3, rfl⟩, hb⟩
  replace B1 := Lib.hid ((hb.block _ (lt_of_row B1.out)).trans B1.out)
  replace HB := Lib.hid (HB.out.trans (hb.mono HB.out.size))
  clear hb D1
  have T1 := Lib.hid (at1 w4 (.cells #[.int .i64 2, .int .i64 1, .int .i64 0, .slice A1 0 c1, .slice A2 0 c2, .slice A3 0 c3] 59))
  have hb := bel1 w4 (.cells #[.int .i64 2, .int .i64 1, .int .i64 0, .slice A1 0 c1, .slice A2 0 c2, .slice A3 0 c3] 59)
  go_upto_region 5 with fail
  generalize ho1 : w4.heap.size = o1 at *
  generalize w4.alloc (.cells #[.int .i64 2, .int .i64 1, .int .i64 0, .slice A1 0 c1, .slice A2 0 c2, .slice A3 0 c3] 59) = w5 at *
  have hs := HB.out.size
  rw [ho1] at hs
  replace B1 := Lib.hid ((hb.block _ (by rw [← ho1]; exact lt_of_row B1.out)).trans B1.out)
  replace HB := Lib.hid (HB.out.trans (hb.mono hs))
  clear hb hs ho1
  obtain ⟨⟨k0, k1, k2, k3, k4, k5, k6, k7, k8, k9, k10⟩, _⟩ := Bx.b11 B1.out
  go_wp2_with fail
  refine (CP.out w5).mono ?_
  rintro e w6 ⟨rfl, hb⟩
  replace T1 := Lib.hid ((hb.block _ (lt_of_row T1.out)).trans T1.out)
  replace HB := Lib.hid (HB.out.trans (hb.mono HB.out.size))
  clear hb k0 k1 k2 k3 k4 k5 k6 k7 k8 k9 k10 B1 CP
  obtain ⟨⟨k0, k1, k2, k3, k4, k5⟩, _⟩ := Bx.b6 T1.out
  go_wp2
  go_ret
  exact ⟨rfl, HB.out⟩
end Go.Proofs.YtdhlebmgeiiejaaGreat
