/- The document's pool: first, walked. Written by wip/tools/genfirst.py. -/
import Derived.Test.YtdanpdlbbgcidaaIdRef9
namespace Go.Proofs.Ytdanpdlbbgcidaa
open Go.RowKit Ids
set_option linter.unusedVariables false

section
variable {w W W' : World} {q : RPl} {K : St}
set_option maxHeartbeats 8000000 in
set_option maxRecDepth 100000 in
theorem rfirst_any (h : RA w q K) (k : Int) : Calls Try.prog 45 #[.pointer (some ⟨q.d, 0, none⟩), .int .i64 k] w fun e w' => e = .returned (.int .i64 (rfirst K k)) ∧ Below w.heap.size w w' := by
  have hs := h.size
  have hm1 := h.ok.m1
  have START := Lib.hid (IsFirst.zero q K k)
  have END : Hid (∀ x, IsFirst q K k (K.n * K.m) x → x = rfirst K k) := Lib.hid fun x hf => IsFirst.end_ h hf
  have SL : Hid (∀ W, Below w.heap.size w W → ∀ p, p < K.n * K.m → W.cell? ⟨q.d, 0, none⟩ = some (Value.slice (some ⟨q.b, 0, none⟩) (K.n * K.m) q.c) ∧ W.cell? ⟨q.b, p * 6, none⟩ = some (.int .i64 ((p / K.m : Nat) : Int)) ∧ W.cell? ⟨q.b, p * 6 + 1, none⟩ = some (.int .i64 ((p % K.m : Nat) : Int)) ∧ W.cell? ⟨q.b, p * 6 + 2, none⟩ = some (.int .i64 (K.gen (p / K.m) (p % K.m) : Int)) ∧
      W.cell? ⟨q.b, p * 6 + 3, none⟩ = some (.int .i64 (K.bnd (p / K.m) (p % K.m) : Int)) ∧ W.cell? ⟨q.b, p * 6 + 4, none⟩ = some (.int .i64 (rowNo q K (p / K.m) (p % K.m))) ∧ W.cell? ⟨q.b, p * 6 + 5, none⟩ = some (.bool (taken K (p / K.m) (p % K.m)))) := Lib.hid fun W hW p hp => by
    obtain ⟨h1, h2, h3⟩ := pos_of hm1 hp
    have h9 := h.below hW
    have := (h9.slot h1 h2).1
    rw [h3] at this
    exact ⟨h9.box0, this⟩
  go_enter Try.func45, Try.ntmps45
  go_wp2
  go_loopw [5, 6] (fun mx nx wr => ∃ (n : Nat) (x : Int), n ≤ K.n * K.m ∧ nx = .int .i64 n ∧ mx = .int .i64 x ∧ Hid (Below w.heap.size w wr ∧ IsFirst q K k n x)) (fun _ nx _ => K.n * K.m - (intOf nx).toNat)
  case atStart => exact ⟨0, -1, Nat.zero_le _, rfl, rfl, Lib.hid ⟨Below.refl _ _, START.out⟩⟩
  case round =>
    obtain ⟨n, x, hn, rfl, rfl, HF⟩ := hrel
    clear START
    have c0 := (h.below HF.out.1).box0
    by_cases hnl : n < K.n * K.m
    · have t1 : (n : Int) < ((K.n * K.m : Nat) : Int) := by omega
      obtain ⟨_, s0, s1, s2, s3, s4, s5⟩ := SL.out _ HF.out.1 n hnl
      obtain ⟨o, ho⟩ : ∃ o, o = Obj.cells #[.int .i64 ((n / K.m : Nat) : Int), .int .i64 ((n % K.m : Nat) : Int), .int .i64 (K.gen (n / K.m) (n % K.m) : Int), .int .i64 (K.bnd (n / K.m) (n % K.m) : Int), .int .i64 (rowNo q K (n / K.m) (n % K.m)), .bool (taken K (n / K.m) (n % K.m))] 67 := ⟨_, rfl⟩
      have b1 := HF.out.1.trans ((bel1 wr o).mono HF.out.1.size)
      have BEL : Hid (∀ nq, Below w.heap.size w ((wr.alloc o).drewN nq)) := Lib.hid fun nq => Below.dn' b1 nq
      have a0 : (wr.alloc o).cell? ⟨wr.heap.size, 0, none⟩ = some (.int .i64 ((n / K.m : Nat) : Int)) := by have e9 := at1 wr o; rw [ho] at e9 ⊢; exact (cell_of e9 rfl).1
      have a4 : (wr.alloc o).cell? ⟨wr.heap.size, 4, none⟩ = some (.int .i64 (rowNo q K (n / K.m) (n % K.m))) := by have e9 := at1 wr o; rw [ho] at e9 ⊢; exact (cell_of e9 rfl).1
      have c0' := (h.below b1).box0
      have TAKE : Hid (InRow K k n → (x = -1 ∨ ∃ pm : Nat, x = (pm : Int) ∧ q.when_ (n / K.m) (n % K.m) < q.when_ (pm / K.m) (pm % K.m)) → IsFirst q K k (n + 1) (n : Int)) := Lib.hid fun h1 h2 => HF.out.2.take h1 h2
      have SKIP : Hid (¬ InRow K k n → IsFirst q K k (n + 1) x) := Lib.hid fun h1 => HF.out.2.skip h1
      by_cases e1 : ((n / K.m : Nat) : Int) = k
      · by_cases e2 : n % K.m ∈ K.row (n / K.m)
        · have hin : InRow K k n := ⟨e1, e2⟩
          have hr := rowNo_in (q := q) e2
          rcases HF.out.2 with ⟨hx, _⟩ | ⟨pm, hpm, hx, hpr, _⟩
          · subst hx
            have IS := Lib.hid (TAKE.out hin (.inl rfl))
            have t2 : (((n / K.m : Nat) : Int) == k) = true := beq_iff_eq.2 e1
            have t3 : decide (rowNo q K (n / K.m) (n % K.m) ≥ 0) = true := by rw [hr]; exact decide_eq_true (by omega)
            clear e1 e2 hr hin
            clear h hm1 SL END TAKE SKIP HF b1
            subst ho
            generalize rowNo q K (n / K.m) (n % K.m) = y4 at *
            generalize (K.gen (n / K.m) (n % K.m) : Int) = y2 at *
            generalize (K.bnd (n / K.m) (n % K.m) : Int) = y3 at *
            generalize taken K (n / K.m) (n % K.m) = y5 at *
            generalize ((n / K.m : Nat) : Int) = y0 at *
            generalize ((n % K.m : Nat) : Int) = y1 at *
            generalize K.n * K.m = N at *
            go_wp2
            go_quiet (fail)
            go_wp2
            go_roundw
            case rel => exact ⟨n + 1, _, by omega, by go_num, rfl, Lib.hid ⟨BEL.out _, IS.out⟩⟩
            case measure => simp [intOf]; omega
          · subst hx
            obtain ⟨_, _, _, _, _, r4, _⟩ := SL.out _ b1 pm (by omega)
            rw [rowNo_in hpr.2] at r4
            have tp : (pm : Int) < ((K.n * K.m : Nat) : Int) := by omega
            by_cases hlt : q.when_ (n / K.m) (n % K.m) < q.when_ (pm / K.m) (pm % K.m)
            · have IS := Lib.hid (TAKE.out hin (.inr ⟨pm, rfl, hlt⟩))
              have t6 : decide ((q.when_ (n / K.m) (n % K.m) : Int) < (q.when_ (pm / K.m) (pm % K.m) : Int)) = true := decide_eq_true (by omega)
              have t2 : (((n / K.m : Nat) : Int) == k) = true := beq_iff_eq.2 e1
              have t3 : decide (rowNo q K (n / K.m) (n % K.m) ≥ 0) = true := by rw [hr]; exact decide_eq_true (by omega)
              have t5 : decide ((pm : Int) < 0) = false := decide_eq_false (by omega)
              rw [← hr] at t6
              clear e1 e2 hr hin hlt hpr hpm
              clear h hm1 SL END TAKE SKIP HF b1
              subst ho
              generalize (q.when_ (pm / K.m) (pm % K.m) : Int) = yp at *
              generalize rowNo q K (n / K.m) (n % K.m) = y4 at *
              generalize (K.gen (n / K.m) (n % K.m) : Int) = y2 at *
              generalize (K.bnd (n / K.m) (n % K.m) : Int) = y3 at *
              generalize taken K (n / K.m) (n % K.m) = y5 at *
              generalize ((n / K.m : Nat) : Int) = y0 at *
              generalize ((n % K.m : Nat) : Int) = y1 at *
              generalize K.n * K.m = N at *
              go_wp2
              go_quiet (fail)
              go_wp2
              go_roundw
              case rel => exact ⟨n + 1, _, by omega, by go_num, rfl, Lib.hid ⟨BEL.out _, IS.out⟩⟩
              case measure => simp [intOf]; omega
            · have IS := Lib.hid (HF.out.2.stay rfl (by omega))
              have t6 : decide ((q.when_ (n / K.m) (n % K.m) : Int) < (q.when_ (pm / K.m) (pm % K.m) : Int)) = false := decide_eq_false (by omega)
              have t2 : (((n / K.m : Nat) : Int) == k) = true := beq_iff_eq.2 e1
              have t3 : decide (rowNo q K (n / K.m) (n % K.m) ≥ 0) = true := by rw [hr]; exact decide_eq_true (by omega)
              have t5 : decide ((pm : Int) < 0) = false := decide_eq_false (by omega)
              rw [← hr] at t6
              clear e1 e2 hr hin hlt hpr hpm
              clear h hm1 SL END TAKE SKIP HF b1
              subst ho
              generalize (q.when_ (pm / K.m) (pm % K.m) : Int) = yp at *
              generalize rowNo q K (n / K.m) (n % K.m) = y4 at *
              generalize (K.gen (n / K.m) (n % K.m) : Int) = y2 at *
              generalize (K.bnd (n / K.m) (n % K.m) : Int) = y3 at *
              generalize taken K (n / K.m) (n % K.m) = y5 at *
              generalize ((n / K.m : Nat) : Int) = y0 at *
              generalize ((n % K.m : Nat) : Int) = y1 at *
              generalize K.n * K.m = N at *
              go_wp2
              go_quiet (fail)
              go_wp2
              go_roundw
              case rel => exact ⟨n + 1, _, by omega, by go_num, rfl, Lib.hid ⟨BEL.out _, IS.out⟩⟩
              case measure => simp [intOf]; omega
        · have IS := Lib.hid (SKIP.out fun t => e2 t.2)
          have hr := rowNo_out (q := q) e2
          have t2 : (((n / K.m : Nat) : Int) == k) = true := beq_iff_eq.2 e1
          have t3 : decide (rowNo q K (n / K.m) (n % K.m) ≥ 0) = false := by rw [hr]; decide
          clear e1 e2 hr
          clear h hm1 SL END TAKE SKIP HF b1
          subst ho
          generalize rowNo q K (n / K.m) (n % K.m) = y4 at *
          generalize (K.gen (n / K.m) (n % K.m) : Int) = y2 at *
          generalize (K.bnd (n / K.m) (n % K.m) : Int) = y3 at *
          generalize taken K (n / K.m) (n % K.m) = y5 at *
          generalize ((n / K.m : Nat) : Int) = y0 at *
          generalize ((n % K.m : Nat) : Int) = y1 at *
          generalize K.n * K.m = N at *
          go_wp2
          go_quiet (fail)
          go_wp2
          go_roundw
          case rel => exact ⟨n + 1, _, by omega, by go_num, rfl, Lib.hid ⟨BEL.out _, IS.out⟩⟩
          case measure => simp [intOf]; omega
      · have IS := Lib.hid (SKIP.out fun t => e1 t.1)
        have t2 : (((n / K.m : Nat) : Int) == k) = false := beq_eq_false_iff_ne.2 e1
        clear e1
        clear h hm1 SL END TAKE SKIP HF b1
        subst ho
        generalize rowNo q K (n / K.m) (n % K.m) = y4 at *
        generalize (K.gen (n / K.m) (n % K.m) : Int) = y2 at *
        generalize (K.bnd (n / K.m) (n % K.m) : Int) = y3 at *
        generalize taken K (n / K.m) (n % K.m) = y5 at *
        generalize ((n / K.m : Nat) : Int) = y0 at *
        generalize ((n % K.m : Nat) : Int) = y1 at *
        generalize K.n * K.m = N at *
        go_wp2
        go_quiet (fail)
        go_wp2
        go_roundw
        case rel => exact ⟨n + 1, _, by omega, by go_num, rfl, Lib.hid ⟨BEL.out _, IS.out⟩⟩
        case measure => simp [intOf]; omega
    · obtain rfl : n = K.n * K.m := by omega
      have t1 : ¬ ((K.n * K.m : Nat) : Int) < ((K.n * K.m : Nat) : Int) := by omega
      have hx := END.out _ HF.out.2
      have HB := Lib.hid HF.out.1
      subst hx
      clear HF END SL h hnl hn
      generalize K.n * K.m = N at *
      go_wp2
      go_ret
      exact ⟨rfl, HB.out⟩
end
end Go.Proofs.Ytdanpdlbbgcidaa
