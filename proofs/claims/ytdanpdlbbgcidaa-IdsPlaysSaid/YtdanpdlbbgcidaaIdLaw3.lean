/- The law IdsApart, walked. Written by wip/tools/genapart.py. -/
import Derived.Test.YtdanpdlbbgcidaaIdHold
import Derived.Deep.DeepCutAuto
namespace Go.Proofs.Ytdanpdlbbgcidaa
open Go.RowKit Ids
set_option linter.unusedVariables false

/-- what the rounds of IdsApart leave -/
structure Ap (w : World) (d r : Nat) (p q : Pl) (j : Nat) (v : Value) (K J : St) (os : List I3) (W : World) : Prop where
  h2 : H2 w d r p q K J (fun W => OwnI W q.hi v os) W
  eq : Eq1 K J
  n : K.n = 2
  len : os.length ≤ j
  zero : ∀ x ∈ os, x.1 = 0
theorem id_at {W : World} {B : Nat} {v : Value} {l : List I3} (h : OwnI W B v l) {j : Nat} (hj : j < l.length) : ∃ g off c, v = .slice (some ⟨g, off, none⟩) l.length c ∧ B ≤ g ∧ g < W.heap.size ∧ (W.cell? ⟨g, off + j * 3, none⟩ = some (.int .i64 l[j].1) ∧ W.cell? ⟨g, off + j * 3 + 1, none⟩ = some (.int .i64 l[j].2.1) ∧ W.cell? ⟨g, off + j * 3 + 2, none⟩ = some (.int .i64 l[j].2.2)) ∧
    (W.frozen? ⟨g, off + j * 3, none⟩ = false ∧ W.frozen? ⟨g, off + j * 3 + 1, none⟩ = false ∧ W.frozen? ⟨g, off + j * 3 + 2, none⟩ = false) := by
  obtain ⟨g, off, c, e, hB, hg, hc⟩ := h.at_ (List.getElem?_eq_getElem hj)
  exact ⟨g, off, c, e, hB, hg, ⟨(hc 0 _ rfl).1, (hc 1 _ rfl).1, (hc 2 _ rfl).1⟩, ⟨(hc 0 _ rfl).2, (hc 1 _ rfl).2, (hc 2 _ rfl).2⟩⟩
theorem nextK_ok {K : St} (ok : Ok K) {k : Nat} (hk : k < K.n) {K' : St} {x : Int × Nat × Nat} {a : Int} (e : nextK K (k : Int) = (K', x, a, true)) : x.1 = k ∧ alive K' (k : Int) (x.2.1 : Int) (x.2.2 : Int) = true := by
  cases hr : K.row k with
  | nil => rw [next_nil hk hr] at e; cases e
  | cons i rr =>
    have hi := ok.lt k hk i (by rw [hr]; simp)
    rw [next_row hk hr hi] at e
    by_cases h1 : K.gen k i < bd K k i
    · rw [if_pos h1] at e
      cases e
      exact ⟨rfl, N1_alive ok hk hi h1⟩
    · rw [if_neg h1] at e
      split at e <;> cases e
set_option maxHeartbeats 16000000 in
set_option maxRecDepth 100000 in
theorem law_apart (w : World) (A : Option Addr) (cap : Nat) (l : List Int) (hlc : l.length ≤ cap) (hcap : cap ≤ 140737488351232) (hi : I64 l) (hR : Reads w w.heap.size A (ints l)) :
    Calls Try.prog 6 #[.slice A l.length cap] w fun e w' => e = .returned (.bool true) ∧ Below w.heap.size w w' := by
  obtain ⟨d, hd⟩ : ∃ d, d = w.heap.size := ⟨_, rfl⟩
  have N0 := h1_new w (n := 2) (m := 3) (by decide) (by decide) (by decide) (by decide)
  rw [← hd] at N0
  have N : Hid (Calls Try.prog 9 #[.int .i64 2, .int .i64 3] w fun e w' => e = .returned (.tuple #[.pointer (some ⟨d, 0, none⟩), .int .i64 0]) ∧ ∃ p, H1 w d p (new 2 3) (fun _ => True) w' ∧ p.hi = w'.heap.size) := N0
  clear N0
  have N2 : Hid (∀ W p, H1 w d p (new 2 3) (fun _ => True) W → p.hi = W.heap.size → Calls Try.prog 9 #[.int .i64 2, .int .i64 3] W fun e w' => e = .returned (.tuple #[.pointer (some ⟨W.heap.size, 0, none⟩), .int .i64 0]) ∧ ∃ q, H2 w d W.heap.size p q (new 2 3) (new 2 3) (fun _ => True) w' ∧ q.hi = w'.heap.size) :=
    Lib.hid fun W p h hp => h2_new h hp (n := 2) (m := 3) (by decide) (by decide) (by decide) (by decide)
  clear hd
  have S0 : Hid (∀ r p q W, H2 w d r p q (new 2 3) (new 2 3) (fun _ => True) W → Ap w d r p q 0 (.slice none 0 0) (new 2 3) (new 2 3) [] W) := Lib.hid fun r p q W h =>
    ⟨h.imp (fun _ => rw_nil W _) (kept_rw _ _ _), ⟨rfl, rfl, fun _ => rfl, fun _ => rfl, rfl⟩, rfl, Nat.le_refl _, fun x hx => by cases hx⟩
  have HR := Lib.hid hR
  have HI := Lib.hid hi
  clear hR hi
  have hl0 : (l.length : Int) ≤ 140737488351232 := by omega
  go_enter Try.func6, Try.ntmps6
  go_wp2_with (first
    | (go_at_call 9; refine N.out.mono ?_; rintro e w1 ⟨rfl, p, h1, hp1⟩; clear N)
    | (go_at_call 9; refine (N2.out w1 p h1 hp1).mono ?_; rintro e w2 ⟨rfl, q, h2, hq2⟩; have s0 := S0.out _ p q w2 h2; clear N2 h1 h2 hp1 hq2))
  obtain ⟨r, hr⟩ : ∃ r, r = w1.heap.size := ⟨_, rfl⟩
  rw [← hr] at s0 ⊢
  clear hr S0
  have s0 := Lib.hid s0
  go_loopw [8, 7] (fun i v wr => ∃ (j : Nat) (K J : St) (os : List I3), j ≤ l.length ∧ j ≤ 60 ∧ i = .int .i64 j ∧ Hid (Ap w d r p q j v K J os wr)) (fun i _ _ => l.length - (intOf i).toNat)
  case atStart => exact ⟨0, _, _, [], Nat.zero_le _, by omega, rfl, s0⟩
  case round =>
    obtain ⟨j, K, J, os, hj, hj60, rfl, HA⟩ := hrel
    clear s0
    obtain ⟨A7, c7, rfl⟩ := HA.out.h2.own.form
    have hos : (os.length : Int) ≤ 60 := by have := HA.out.len; omega
    by_cases hjl : j < l.length
    · have t1 : (j : Int) < (l.length : Int) := by omega
      by_cases hj6 : j < 60
      · have t2 : (j : Int) < 60 := by omega
        obtain ⟨b, off, rfl, hbB, hc0⟩ := HR.out.at_ (k := j) (by simpa [ints] using hjl)
        have hI := HI.out l[j] (List.getElem_mem hjl)
        have HC : Hid (∀ W, Below w.heap.size w W → W.cell? ⟨b, off + j, none⟩ = some (.int .i64 l[j])) := Lib.hid fun W hW => by
          rw [hW.cell (p := ⟨b, off + j, none⟩) hbB, hc0]
          simp [ints]
        have c0 := HC.out wr HA.out.h2.bel
        clear hc0 HR HI
        generalize l[j] = n at *
        have MD2 := Lib.hid (fun W => mod_any n 2 W (by decide) (by decide))
        have MD4 := Lib.hid (fun W => mod_any n 4 W (by decide) (by decide))
        have MD3 := Lib.hid (fun W => mod_any n 3 W (by decide) (by decide))
        generalize n % 2 = m2 at *
        generalize n % 4 = m4 at *
        generalize n % 3 = m3 at *
        have okK := HA.out.h2.pa.ok
        have hn2 := HA.out.n
        by_cases e2 : m2 = 0
        · -- shard 1, of both
          have t3 : (m2 == 0) = true := beq_iff_eq.2 e2
          clear e2
          obtain ⟨e1, e2⟩ := HA.out.eq.next1 okK (by omega)
          obtain ⟨K', x, a, bo, eK⟩ : ∃ K' x a bo, nextK K ((1 : Nat) : Int) = (K', x, a, bo) := ⟨_, _, _, _, rfl⟩
          obtain ⟨J', y, a', bo', eJ⟩ : ∃ J' y a' bo', nextK J ((1 : Nat) : Int) = (J', y, a', bo') := ⟨_, _, _, _, rfl⟩
          rw [eK, eJ] at e1 e2
          simp only [Prod.mk.injEq] at e1 e2
          obtain ⟨rfl, rfl, rfl⟩ := e1
          have okx : bo = true → x.1 = 1 ∧ alive K' 1 (x.2.1 : Int) (x.2.2 : Int) = true := fun hb => by
            subst hb
            have := nextK_ok okK (k := 1) (by omega) eK
            exact this
          have NL : Hid (Calls Try.prog 15 #[.pointer (some ⟨d, 0, none⟩), .int .i64 1] wr fun e w' => e = .returned (.tuple #[.agg #[.int .i64 x.1, .int .i64 (x.2.1 : Nat), .int .i64 (x.2.2 : Nat)], .int .i64 a, .bool bo]) ∧ H2 w d r p q K' J (fun W => OwnI W q.hi (.slice A7 os.length c7) os) w') := Lib.hid (HA.out.h2.nxtL ((1 : Nat) : Int) eK)
          have NR : Hid (∀ W R, H2 w d r p q K' J R W → Calls Try.prog 15 #[.pointer (some ⟨r, 0, none⟩), .int .i64 1] W fun e w' => e = .returned (.tuple #[.agg #[.int .i64 x.1, .int .i64 (x.2.1 : Nat), .int .i64 (x.2.2 : Nat)], .int .i64 a, .bool bo]) ∧ H2 w d r p q K' J' R w') := Lib.hid (fun W R h => h.nxtR ((1 : Nat) : Int) eJ)
          have hn' : K'.n = 2 := by have := (nextK_nm K ((1 : Nat) : Int)).1; rw [eK] at this; exact this.trans hn2
          have REL : Hid (∀ W R v, (∀ W, R W → OwnI W q.hi v os) → ∀ K9 J9, Eq1 K9 J9 → K9.n = 2 → H2 w d r p q K9 J9 R W → Ap w d r p q (j + 1) v K9 J9 os W) := Lib.hid fun W R v hRR K9 J9 hE hn h =>
            ⟨h.imp (hRR W) (kept_rw _ _ _), hE, hn, by have := HA.out.len; omega, HA.out.zero⟩
          have E2 := Lib.hid e2
          cases bo with
          | false =>
            clear eK eJ okx okK hn2 e2 MD3
            go_wp2_with (first
              | (go_at_call 14; refine (MD2.out _).mono ?_; rintro e w' ⟨rfl, rfl⟩; clear MD2)
              | (go_at_call 15; refine NL.out.mono ?_; rintro e w3 ⟨rfl, h3⟩; have h4 := h3.box (.cells #[.int .i64 x.1, .int .i64 (x.2.1 : Int), .int .i64 (x.2.2 : Int)] 33); clear NL h3)
              | (go_at_call 15; refine (NR.out _ _ h4).mono ?_; rintro e w5 ⟨rfl, h5⟩; have h6 := h5.box (.cells #[.int .i64 x.1, .int .i64 (x.2.1 : Int), .int .i64 (x.2.2 : Int)] 33); clear NR h4 h5; have hR6 := h6.own; obtain ⟨⟨a0, a1, a2⟩, _⟩ := box3 hR6.1.2; obtain ⟨⟨b0, b1, b2⟩, _⟩ := box3 hR6.2; clear hR6; have c0' := HC.out _ h6.bel)
              | fail)
            go_roundw
            case rel => exact ⟨j + 1, _, _, os, by omega, by omega, by go_num, Lib.hid (REL.out _ _ _ (fun W h => h.1.1) _ _ E2.out hn' h6)⟩
            case measure => simp [intOf]; omega
          | true =>
            obtain ⟨hx1, hal⟩ := okx rfl
            have hfK := free_alive hal
            have hfJ := free_alive ((e2.alive1 _ _).symm.trans hal)
            have AL := Lib.hid (fun W R (h : H2 w d r p q K' J' R W) => h.aliveL 1 (x.2.1 : Int) (x.2.2 : Int) hal)
            have FL := Lib.hid (fun W R (h : H2 w d r p q K' J' R W) => h.freeL 1 (x.2.1 : Int) (x.2.2 : Int) hfK)
            have FR := Lib.hid (fun W R K9 (h : H2 w d r p q K9 J' R W) => h.freeR 1 (x.2.1 : Int) (x.2.2 : Int) hfJ)
            have E3 : Hid (Eq1 (freed K' (1 : Int).toNat (x.2.1 : Int).toNat) (freed J' (1 : Int).toNat (x.2.1 : Int).toNat)) := Lib.hid (e2.freed1 _)
            have hn9 : (freed K' (1 : Int).toNat (x.2.1 : Int).toNat).n = 2 := by
              have := (free_nm K' 1 (x.2.1 : Int) (x.2.2 : Int)).1
              rw [hfK] at this
              exact this.trans hn'
            clear hfK hfJ eK eJ okx okK hn2 e2 MD3 hal
            generalize freed K' (1 : Int).toNat (x.2.1 : Int).toNat = K9 at *
            generalize freed J' (1 : Int).toNat (x.2.1 : Int).toNat = J9 at *
            obtain ⟨x1, x2, x3⟩ := x
            simp only at hx1 NL NR AL FL FR
            subst hx1
            generalize (x2 : Int) = y2 at *
            generalize (x3 : Int) = y3 at *
            by_cases e4 : m4 = 0
            · have t4 : (m4 == 0) = true := beq_iff_eq.2 e4
              clear e4
              go_wp2_with (first
                | (go_at_call 14; refine (MD2.out _).mono ?_; rintro e w' ⟨rfl, rfl⟩; clear MD2)
                | (go_at_call 15; refine NL.out.mono ?_; rintro e w3 ⟨rfl, h3⟩; have h4 := h3.box (.cells #[.int .i64 1, .int .i64 y2, .int .i64 y3] 33); clear NL h3)
                | (go_at_call 15; refine (NR.out _ _ h4).mono ?_; rintro e w5 ⟨rfl, h5⟩; have h6 := h5.box (.cells #[.int .i64 1, .int .i64 y2, .int .i64 y3] 33); clear NR h4 h5; have hR6 := h6.own; obtain ⟨⟨a0, a1, a2⟩, _⟩ := box3 hR6.1.2; obtain ⟨⟨b0, b1, b2⟩, _⟩ := box3 hR6.2; clear hR6; have c0' := HC.out _ h6.bel)
                | (go_at_call 20; refine (AL.out _ _ h6).mono ?_; rintro e w7 ⟨rfl, h7⟩; clear AL h6 a0 a1 a2 b0 b1 b2 c0'; have hR7 := h7.own; obtain ⟨⟨a0, a1, a2⟩, _⟩ := box3 hR7.1.2; obtain ⟨⟨b0, b1, b2⟩, _⟩ := box3 hR7.2; clear hR7; have c0' := HC.out _ h7.bel)
                | (go_at_call 14; refine (MD4.out _).mono ?_; rintro e w' ⟨rfl, rfl⟩; clear MD4)
                | (go_at_call 18; refine (FL.out _ _ h7).mono ?_; rintro e w8 ⟨rfl, h8⟩; clear FL h7 a0 a1 a2 b0 b1 b2 c0'; obtain ⟨⟨b0, b1, b2⟩, _⟩ := box3 h8.own.2)
                | (go_at_call 18; refine (FR.out _ _ _ h8).mono ?_; rintro e w9 ⟨rfl, h9⟩; clear FR h8 b0 b1 b2))
              go_roundw
              case rel => exact ⟨j + 1, _, _, os, by omega, by omega, by go_num, Lib.hid (REL.out _ _ _ (fun W h => h.1.1) _ _ E3.out hn9 h9)⟩
              case measure => simp [intOf]; omega
            · have t4 : (m4 == 0) = false := beq_eq_false_iff_ne.2 e4
              clear e4
              go_wp2_with (first
                | (go_at_call 14; refine (MD2.out _).mono ?_; rintro e w' ⟨rfl, rfl⟩; clear MD2)
                | (go_at_call 15; refine NL.out.mono ?_; rintro e w3 ⟨rfl, h3⟩; have h4 := h3.box (.cells #[.int .i64 1, .int .i64 y2, .int .i64 y3] 33); clear NL h3)
                | (go_at_call 15; refine (NR.out _ _ h4).mono ?_; rintro e w5 ⟨rfl, h5⟩; have h6 := h5.box (.cells #[.int .i64 1, .int .i64 y2, .int .i64 y3] 33); clear NR h4 h5; have hR6 := h6.own; obtain ⟨⟨a0, a1, a2⟩, _⟩ := box3 hR6.1.2; obtain ⟨⟨b0, b1, b2⟩, _⟩ := box3 hR6.2; clear hR6; have c0' := HC.out _ h6.bel)
                | (go_at_call 20; refine (AL.out _ _ h6).mono ?_; rintro e w7 ⟨rfl, h7⟩; clear AL h6 a0 a1 a2 b0 b1 b2 c0'; have hR7 := h7.own; obtain ⟨⟨a0, a1, a2⟩, _⟩ := box3 hR7.1.2; obtain ⟨⟨b0, b1, b2⟩, _⟩ := box3 hR7.2; clear hR7; have c0' := HC.out _ h7.bel)
                | (go_at_call 14; refine (MD4.out _).mono ?_; rintro e w' ⟨rfl, rfl⟩; clear MD4)
                | fail)
              go_roundw
              case rel => exact ⟨j + 1, _, _, os, by omega, by omega, by go_num, Lib.hid (REL.out _ _ _ (fun W h => h.1.1) _ _ E2.out hn' h7)⟩
              case measure => simp [intOf]; omega
        · -- shard 0, of one
          have t3 : (m2 == 0) = false := beq_eq_false_iff_ne.2 e2
          clear e2
          obtain ⟨K', x, a, bo, eK⟩ : ∃ K' x a bo, nextK K ((0 : Nat) : Int) = (K', x, a, bo) := ⟨_, _, _, _, rfl⟩
          have E2 := HA.out.eq.next0 okK
          rw [eK] at E2
          have okx : bo = true → x.1 = 0 := fun hb => by
            subst hb
            exact (nextK_ok okK (k := 0) (by omega) eK).1
          have NL : Hid (Calls Try.prog 15 #[.pointer (some ⟨d, 0, none⟩), .int .i64 0] wr fun e w' => e = .returned (.tuple #[.agg #[.int .i64 x.1, .int .i64 (x.2.1 : Nat), .int .i64 (x.2.2 : Nat)], .int .i64 a, .bool bo]) ∧ H2 w d r p q K' J (fun W => OwnI W q.hi (.slice A7 os.length c7) os) w') := Lib.hid (HA.out.h2.nxtL ((0 : Nat) : Int) eK)
          have hn' : K'.n = 2 := by have := (nextK_nm K ((0 : Nat) : Int)).1; rw [eK] at this; exact this.trans hn2
          have ZERO := Lib.hid HA.out.zero
          have LEN := Lib.hid HA.out.len
          have E2 := Lib.hid E2
          clear MD4 okK hn2 eK
          have RELO : Hid (∀ W R v os' K9, os'.length ≤ j + 1 → (∀ x ∈ os', x.1 = 0) → (∀ W, R W → OwnI W q.hi v os') → Eq1 K9 J → K9.n = 2 → H2 w d r p q K9 J R W → Ap w d r p q (j + 1) v K9 J os' W) := Lib.hid fun W R v os' K9 hl hz hRR hE hn h =>
            ⟨h.imp (hRR W) (kept_rw _ _ _), hE, hn, hl, hz⟩
          -- Free of one of the others
          have FX : Hid (∀ (os' : List I3) (k : Nat) (hk : k < os'.length), (∀ x ∈ os', x.1 = 0) → ∀ W R, H2 w d r p q K' J R W → Calls Try.prog 18 #[.pointer (some ⟨d, 0, none⟩), .agg #[.int .i64 os'[k].1, .int .i64 os'[k].2.1, .int .i64 os'[k].2.2]] W fun e w' => ∃ (n9 : Nat) (K9 : St), e = .returned (.int .i64 (n9 : Int)) ∧ Eq1 K9 J ∧ K9.n = 2 ∧ H2 w d r p q K9 J R w') := Lib.hid fun os' k hk hz W R h => by
            refine (h.freeL os'[k].1 os'[k].2.1 os'[k].2.2 (n := (free K' os'[k].1 os'[k].2.1 os'[k].2.2).2) rfl).mono ?_
            rintro e w' ⟨rfl, h9⟩
            refine ⟨_, _, rfl, ?_, (free_nm _ _ _ _).1.trans hn', h9⟩
            rw [hz _ (List.getElem_mem hk)]
            exact E2.out.free0 _ _
          have DV : Hid (∀ (m : Nat) (W : World), 0 < m → m ≤ 61 → Calls Try.prog 14 #[.int .i64 (n.tdiv 6), .int .i64 (m : Int)] W fun e w' => ∃ z : Nat, z < m ∧ e = .returned (.int .i64 (z : Int)) ∧ W = w') := Lib.hid fun m W hm hm2 => by
            refine (mod_any (n.tdiv 6) (m : Int) W (by omega) (by omega)).mono ?_
            rintro e w' ⟨rfl, rfl⟩
            have g1 := Int.emod_nonneg (n.tdiv 6) (show (m : Int) ≠ 0 by omega)
            have g2 := Int.emod_lt_of_pos (n.tdiv 6) (show (0 : Int) < (m : Int) by omega)
            exact ⟨(n.tdiv 6 % (m : Int)).toNat, by omega, by rw [show (((n.tdiv 6 % (m : Int)).toNat : Nat) : Int) = n.tdiv 6 % (m : Int) by omega], rfl⟩
          have hI' : -9223372036854775808 ≤ n ∧ n ≤ 9223372036854775807 := hI
          have wq : IntKind.i64.wrap (n.tdiv 6) = n.tdiv 6 := by
            refine IntWalk.i64_in _ ?_
            have q1 := Int.tdiv_mul_add_tmod n 6 |>.symm
            have q2 : n.tdiv 6 = n.tdiv 6 := rfl
            rcases Int.le_total 0 n with hn0 | hn0
            · have := Int.tdiv_eq_ediv_of_nonneg (b := 6) hn0
              omega
            · have : n.tdiv 6 = -((-n).tdiv 6) := by rw [Int.neg_tdiv, Int.neg_neg]
              have h2 := Int.tdiv_eq_ediv_of_nonneg (a := -n) (b := 6) (by omega)
              omega
          by_cases e3 : m3 = 0
          · have t4 : (m3 == 0) = true := beq_iff_eq.2 e3
            clear e3
            cases bo with
            | true =>
              have hx1 := okx rfl
              clear okx
              obtain ⟨x1, x2, x3⟩ := x
              simp only at hx1 NL
              subst hx1
              generalize (x2 : Int) = y2 at *
              generalize (x3 : Int) = y3 at *
              obtain ⟨os', hos'⟩ : ∃ os' : List I3, os' = os ++ [((0 : Int), y2, y3)] := ⟨_, rfl⟩
              have PU : Hid (∀ W, H2 w d r p q K' J (fun W' => OwnI W' q.hi (.slice A7 os.length c7) os) W → ∃ v9 w9, (∃ A9 c9, v9 = .slice A9 os'.length c9) ∧ Hid ((Builtin.append_ #[40, 40] 40 #[.slice A7 os.length c7, .slice (some ⟨W.heap.size + 1, 0, none⟩) 1 1]).run Try.prog ((W.alloc (.cells #[.int .i64 0, .int .i64 y2, .int .i64 y3] 33)).alloc (.cells #[.int .i64 0, .int .i64 y2, .int .i64 y3] 33)) = .ok v9 w9) ∧ H2 w d r p q K' J (fun W' => OwnI W' q.hi v9 os') w9) := Lib.hid fun W h => by
                have hb := h.below (bel1 W (.cells #[.int .i64 0, .int .i64 y2, .int .i64 y3] 33))
                obtain ⟨v9, w9, g1, g2, g3, g4, g5⟩ := push_id _ hb.own hb.qa.top (by have := LEN.out; omega) ((0 : Int), y2, y3) 40
                rw [size1] at g1
                rw [← hos'] at g2
                obtain ⟨A9, c9, e9⟩ := g2.form
                exact ⟨v9, w9, ⟨A9, c9, e9⟩, Lib.hid g1, hb.put g5 g2 (kept_rw _ _ _)⟩
              have hlen' : os'.length = os.length + 1 := by rw [hos', List.length_append]; rfl
              have hz' : ∀ x ∈ os', x.1 = 0 := by
                intro x hx
                rw [hos'] at hx
                rcases List.mem_append.1 hx with hx | hx
                · exact ZERO.out x hx
                · obtain rfl : x = ((0 : Int), y2, y3) := by simpa using hx
                  rfl
              have hz' := Lib.hid hz'
              have hle' : os'.length ≤ j + 1 := by have := LEN.out; omega
              have h0 : 0 < os'.length := by omega
              have t5 : (os'.length : Int) > 0 := by omega
              have t6 : (os'.length : Int) ≤ 61 := by omega
              clear hos' hlen'
              go_wp2_with (first
                | (go_at_call 14; refine (MD2.out _).mono ?_; rintro e w' ⟨rfl, rfl⟩; clear MD2)
                | (go_at_call 15; refine NL.out.mono ?_; rintro e w3 ⟨rfl, h3⟩; have h4 := h3.box (.cells #[.int .i64 0, .int .i64 y2, .int .i64 y3] 33); obtain ⟨⟨a0, a1, a2⟩, _⟩ := box3 h4.own.2; obtain ⟨v9, w9, ⟨A9, c9, rfl⟩, HRUN, h5⟩ := PU.out w3 h3; clear NL h3 h4 PU)
                | (at_builtin; refine wpList_append _ rfl (.tmp 127) (.tmp 129) _ _ rfl _ (.slice (some ⟨_, 0, none⟩) 1 1) rfl rfl _ _ HRUN.out ?_; clear HRUN a0 a1 a2; have c0' := HC.out _ h5.bel)
                | (go_at_call 14; refine (MD3.out _).mono ?_; rintro e w' ⟨rfl, rfl⟩; clear MD3)
                | (go_at_call 14; refine (DV.out os'.length _ h0 (by omega)).mono ?_; rintro e w' ⟨z, hz, rfl, rfl⟩; clear DV; obtain ⟨gz, oz, cz, ez, _, _, ⟨z0, z1, z2⟩, _⟩ := id_at h5.own hz; cases ez; have FZ := FX.out os' z hz hz'.out _ _ h5; clear FX; generalize os'[z] = xz at *; have hzi : (z : Int) < (os'.length : Int) := by omega)
                | (go_at_call 18; refine FZ.mono ?_; rintro e w8 ⟨n9, K9, rfl, hE9, hn9, h9⟩))
              go_roundw
              case rel => exact ⟨j + 1, _, _, os', by omega, by omega, by go_num, Lib.hid (RELO.out _ _ _ _ _ hle' hz'.out (fun W h => h) hE9 hn9 h9)⟩
              case measure => simp [intOf]; omega
            | false =>
              clear okx
              by_cases h0 : 0 < os.length
              · have t5 : (os.length : Int) > 0 := by omega
                go_wp2_with (first
                  | (go_at_call 14; refine (MD2.out _).mono ?_; rintro e w' ⟨rfl, rfl⟩; clear MD2)
                  | (go_at_call 15; refine NL.out.mono ?_; rintro e w3 ⟨rfl, h3⟩; have h4 := h3.box (.cells #[.int .i64 x.1, .int .i64 (x.2.1 : Int), .int .i64 (x.2.2 : Int)] 33); clear NL h3; have c0' := HC.out _ h4.bel; obtain ⟨⟨a0, a1, a2⟩, _⟩ := box3 h4.own.2)
                  | (go_at_call 14; refine (MD3.out _).mono ?_; rintro e w' ⟨rfl, rfl⟩; clear MD3)
                  | (go_at_call 14; refine (DV.out os.length _ h0 (by omega)).mono ?_; rintro e w' ⟨z, hz, rfl, rfl⟩; clear DV; obtain ⟨gz, oz, cz, ez, _, _, ⟨z0, z1, z2⟩, _⟩ := id_at h4.own.1 hz; cases ez; have FZ := FX.out os z hz ZERO.out _ _ h4; clear FX; generalize os[z] = xz at *; have hzi : (z : Int) < (os.length : Int) := by omega)
                  | (go_at_call 18; refine FZ.mono ?_; rintro e w8 ⟨n9, K9, rfl, hE9, hn9, h9⟩))
                go_roundw
                case rel => exact ⟨j + 1, _, _, os, by omega, by omega, by go_num, Lib.hid (RELO.out _ _ _ _ _ (by have := LEN.out; omega) ZERO.out (fun W h => h.1) hE9 hn9 h9)⟩
                case measure => simp [intOf]; omega
              · have t5 : ¬ (os.length : Int) > 0 := by omega
                go_wp2_with (first
                  | (go_at_call 14; refine (MD2.out _).mono ?_; rintro e w' ⟨rfl, rfl⟩; clear MD2)
                  | (go_at_call 15; refine NL.out.mono ?_; rintro e w3 ⟨rfl, h3⟩; have h4 := h3.box (.cells #[.int .i64 x.1, .int .i64 (x.2.1 : Int), .int .i64 (x.2.2 : Int)] 33); clear NL h3; have c0' := HC.out _ h4.bel; obtain ⟨⟨a0, a1, a2⟩, _⟩ := box3 h4.own.2)
                  | (go_at_call 14; refine (MD3.out _).mono ?_; rintro e w' ⟨rfl, rfl⟩; clear MD3))
                go_roundw
                case rel => exact ⟨j + 1, _, _, os, by omega, by omega, by go_num, Lib.hid (RELO.out _ _ _ _ _ (by have := LEN.out; omega) ZERO.out (fun W h => h.1) E2.out hn' h4)⟩
                case measure => simp [intOf]; omega
          · have t4 : (m3 == 0) = false := beq_eq_false_iff_ne.2 e3
            clear e3 FX DV
            cases bo with
            | true =>
              have hx1 := okx rfl
              clear okx
              obtain ⟨x1, x2, x3⟩ := x
              simp only at hx1 NL
              subst hx1
              generalize (x2 : Int) = y2 at *
              generalize (x3 : Int) = y3 at *
              obtain ⟨os', hos'⟩ : ∃ os' : List I3, os' = os ++ [((0 : Int), y2, y3)] := ⟨_, rfl⟩
              have PU : Hid (∀ W, H2 w d r p q K' J (fun W' => OwnI W' q.hi (.slice A7 os.length c7) os) W → ∃ v9 w9, (∃ A9 c9, v9 = .slice A9 os'.length c9) ∧ Hid ((Builtin.append_ #[40, 40] 40 #[.slice A7 os.length c7, .slice (some ⟨W.heap.size + 1, 0, none⟩) 1 1]).run Try.prog ((W.alloc (.cells #[.int .i64 0, .int .i64 y2, .int .i64 y3] 33)).alloc (.cells #[.int .i64 0, .int .i64 y2, .int .i64 y3] 33)) = .ok v9 w9) ∧ H2 w d r p q K' J (fun W' => OwnI W' q.hi v9 os') w9) := Lib.hid fun W h => by
                have hb := h.below (bel1 W (.cells #[.int .i64 0, .int .i64 y2, .int .i64 y3] 33))
                obtain ⟨v9, w9, g1, g2, g3, g4, g5⟩ := push_id _ hb.own hb.qa.top (by have := LEN.out; omega) ((0 : Int), y2, y3) 40
                rw [size1] at g1
                rw [← hos'] at g2
                obtain ⟨A9, c9, e9⟩ := g2.form
                exact ⟨v9, w9, ⟨A9, c9, e9⟩, Lib.hid g1, hb.put g5 g2 (kept_rw _ _ _)⟩
              have hlen' : os'.length = os.length + 1 := by rw [hos', List.length_append]; rfl
              have hz' : ∀ x ∈ os', x.1 = 0 := by
                intro x hx
                rw [hos'] at hx
                rcases List.mem_append.1 hx with hx | hx
                · exact ZERO.out x hx
                · obtain rfl : x = ((0 : Int), y2, y3) := by simpa using hx
                  rfl
              have hz' := Lib.hid hz'
              have hle' : os'.length ≤ j + 1 := by have := LEN.out; omega
              have h0 : 0 < os'.length := by omega
              have t5 : (os'.length : Int) > 0 := by omega
              have t6 : (os'.length : Int) ≤ 61 := by omega
              clear hos' hlen'
              go_wp2_with (first
                | (go_at_call 14; refine (MD2.out _).mono ?_; rintro e w' ⟨rfl, rfl⟩; clear MD2)
                | (go_at_call 15; refine NL.out.mono ?_; rintro e w3 ⟨rfl, h3⟩; have h4 := h3.box (.cells #[.int .i64 0, .int .i64 y2, .int .i64 y3] 33); obtain ⟨⟨a0, a1, a2⟩, _⟩ := box3 h4.own.2; obtain ⟨v9, w9, ⟨A9, c9, rfl⟩, HRUN, h5⟩ := PU.out w3 h3; clear NL h3 h4 PU)
                | (at_builtin; refine wpList_append _ rfl (.tmp 127) (.tmp 129) _ _ rfl _ (.slice (some ⟨_, 0, none⟩) 1 1) rfl rfl _ _ HRUN.out ?_; clear HRUN a0 a1 a2; have c0' := HC.out _ h5.bel)
                | (go_at_call 14; refine (MD3.out _).mono ?_; rintro e w' ⟨rfl, rfl⟩; clear MD3))
              go_roundw
              case rel => exact ⟨j + 1, _, _, os', by omega, by omega, by go_num, Lib.hid (RELO.out _ _ _ _ _ hle' hz'.out (fun W h => h) E2.out hn' h5)⟩
              case measure => simp [intOf]; omega
            | false =>
              clear okx
              by_cases h0 : 0 < os.length
              · have t5 : (os.length : Int) > 0 := by omega
                go_wp2_with (first
                  | (go_at_call 14; refine (MD2.out _).mono ?_; rintro e w' ⟨rfl, rfl⟩; clear MD2)
                  | (go_at_call 15; refine NL.out.mono ?_; rintro e w3 ⟨rfl, h3⟩; have h4 := h3.box (.cells #[.int .i64 x.1, .int .i64 (x.2.1 : Int), .int .i64 (x.2.2 : Int)] 33); clear NL h3; have c0' := HC.out _ h4.bel; obtain ⟨⟨a0, a1, a2⟩, _⟩ := box3 h4.own.2)
                  | (go_at_call 14; refine (MD3.out _).mono ?_; rintro e w' ⟨rfl, rfl⟩; clear MD3))
                go_roundw
                case rel => exact ⟨j + 1, _, _, os, by omega, by omega, by go_num, Lib.hid (RELO.out _ _ _ _ _ (by have := LEN.out; omega) ZERO.out (fun W h => h.1) E2.out hn' h4)⟩
                case measure => simp [intOf]; omega
              · have t5 : ¬ (os.length : Int) > 0 := by omega
                go_wp2_with (first
                  | (go_at_call 14; refine (MD2.out _).mono ?_; rintro e w' ⟨rfl, rfl⟩; clear MD2)
                  | (go_at_call 15; refine NL.out.mono ?_; rintro e w3 ⟨rfl, h3⟩; have h4 := h3.box (.cells #[.int .i64 x.1, .int .i64 (x.2.1 : Int), .int .i64 (x.2.2 : Int)] 33); clear NL h3; have c0' := HC.out _ h4.bel; obtain ⟨⟨a0, a1, a2⟩, _⟩ := box3 h4.own.2)
                  | (go_at_call 14; refine (MD3.out _).mono ?_; rintro e w' ⟨rfl, rfl⟩; clear MD3))
                go_roundw
                case rel => exact ⟨j + 1, _, _, os, by omega, by omega, by go_num, Lib.hid (RELO.out _ _ _ _ _ (by have := LEN.out; omega) ZERO.out (fun W h => h.1) E2.out hn' h4)⟩
                case measure => simp [intOf]; omega
      · have t2 : ¬ (j : Int) < 60 := by omega
        have HB := Lib.hid HA.out.h2.bel
        clear HR HI HA
        go_wp2_with (go_at_call 11; refine (awake_any _).mono ?_; rintro e w9 ⟨rfl, hb9⟩; have b9 := HB.out.trans (hb9.mono HB.out.size); clear hb9)
        go_ret
        exact ⟨rfl, b9⟩
    · have t1 : ¬ (j : Int) < (l.length : Int) := by omega
      have HB := Lib.hid HA.out.h2.bel
      clear HR HI HA
      go_wp2_with (go_at_call 11; refine (awake_any _).mono ?_; rintro e w9 ⟨rfl, hb9⟩; have b9 := HB.out.trans (hb9.mono HB.out.size); clear hb9)
      go_ret
      exact ⟨rfl, b9⟩
end Go.Proofs.Ytdanpdlbbgcidaa
