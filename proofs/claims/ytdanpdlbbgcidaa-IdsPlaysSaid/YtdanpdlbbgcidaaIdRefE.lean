/- The document's pool: Lapse, walked. Written by wip/tools/genlapse.py. -/
import Derived.Test.YtdanpdlbbgcidaaIdRefD
namespace Go.Proofs.Ytdanpdlbbgcidaa
open Go.RowKit Ids
set_option linter.unusedVariables false

section
variable {w W W' : World} {lo hi : Nat} {q : RPl} {K : St}
set_option maxHeartbeats 8000000 in
set_option maxRecDepth 100000 in
/-- what is set aside is given up -/
theorem rlapse_any (h : RA w q K) (fr : Fr K) (hd : lo ≤ q.d ∧ q.d < hi) (hb : lo ≤ q.b ∧ q.b < hi) : Calls Try.prog 30 #[.pointer (some ⟨q.d, 0, none⟩)] w fun e w' => e = .returned (.int .i64 ((lapse K).2 : Nat)) ∧ RA w' q (lapse K).1 ∧ Turn lo hi w w' := by
  have hs := h.size
  have hm1 := h.ok.m1
  have START : Hid (Ps w lo hi q K (lapF q K 0) w) := Lib.hid ((h.ps hd hb).congr fun k i e _ _ _ => (if_neg (Nat.not_lt_zero _)).symm)
  have END : Hid (∀ W, Ps w lo hi q K (lapF q K (K.n * K.m)) W → RA W q (lapse K).1 ∧ Turn lo hi w W) := Lib.hid fun W hW => ⟨hW.lapsed h, hW.tu⟩
  have hc0 : Hid (cnt K 0 = 0) := Lib.hid rfl
  have hcl : Hid (∀ p, p ≤ K.n * K.m → cnt K p ≤ 256) := Lib.hid fun p hp => by have := cnt_le K p; omega
  have hcN : (lapse K).2 = cnt K (K.n * K.m) := rfl
  rw [hcN]
  have BX : Hid (∀ f W, Ps w lo hi q K f W → W.cell? ⟨q.d, 0, none⟩ = some (Value.slice (some ⟨q.b, 0, none⟩) (K.n * K.m) q.c)) := Lib.hid fun f W hW => hW.rs.box0
  have CE : Hid (∀ f W p e, p < K.n * K.m → e < 6 → Ps w lo hi q K f W → W.cell? ⟨q.b, p * 6 + e, none⟩ = some (f (p / K.m) (p % K.m) e) ∧ W.frozen? ⟨q.b, p * 6 + e, none⟩ = false) := Lib.hid fun f W p e hp he hP => by
    obtain ⟨h1, h2, h3⟩ := pos_of hm1 hp
    have := hP.cell h1 h2 he
    rw [h3] at this
    exact this
  have ST : Hid (∀ f W p e v, p < K.n * K.m → e < 6 → Ps w lo hi q K f W → Ps w lo hi q K (up3 f (p / K.m) (p % K.m) e v) (W.setCell ⟨q.b, p * 6 + e, none⟩ v)) := Lib.hid fun f W p e v hp he hP => by
    obtain ⟨h1, h2, h3⟩ := pos_of hm1 hp
    have := hP.set h1 h2 he v
    rw [h3] at this
    exact this
  have HERE : Hid (∀ p e, p < K.n * K.m → lapF q K p (p / K.m) (p % K.m) e = slotV q K (p / K.m) (p % K.m) e) := Lib.hid fun p e hp => by
    obtain ⟨h1, h2, h3⟩ := pos_of hm1 hp
    have := lapF_here (q := q) (K := K) (k := p / K.m) (i := p % K.m) e
    rw [h3] at this
    exact this
  have CS : Hid (∀ p, p < K.n * K.m → cnt K (p + 1) = cnt K p + if flag K (p / K.m) (p % K.m) = true then 1 else 0) := Lib.hid fun p hp => by
    obtain ⟨h1, h2, h3⟩ := pos_of hm1 hp
    have := cnt_succ K (k := p / K.m) (i := p % K.m) h2
    rw [h3] at this
    exact this
  have MISS : Hid (∀ W p, p < K.n * K.m → ¬ flag K (p / K.m) (p % K.m) = true → Ps w lo hi q K (lapF q K p) W → Ps w lo hi q K (lapF q K (p + 1)) W) := Lib.hid fun W p hp hf hP => by
    obtain ⟨h1, h2, h3⟩ := pos_of hm1 hp
    exact hP.congr (lapF_miss fr h3 h1 h2 hf)
  have LOW : Hid (∀ W p, p < K.n * K.m → flag K (p / K.m) (p % K.m) = true → K.bnd (p / K.m) (p % K.m) < MG → Ps w lo hi q K (up3 (lapF q K p) (p / K.m) (p % K.m) 2 (.int .i64 (K.bnd (p / K.m) (p % K.m) : Int))) W → Ps w lo hi q K (lapF q K (p + 1)) W) := Lib.hid fun W p hp hf hM hP => by
    obtain ⟨h1, h2, h3⟩ := pos_of hm1 hp
    exact hP.congr (lapF_low h.ok h3 h1 h2 hf hM)
  have TOP : Hid (∀ W p, p < K.n * K.m → flag K (p / K.m) (p % K.m) = true → ¬ K.bnd (p / K.m) (p % K.m) < MG → Ps w lo hi q K (up3 (up3 (lapF q K p) (p / K.m) (p % K.m) 2 (.int .i64 (K.bnd (p / K.m) (p % K.m) : Int))) (p / K.m) (p % K.m) 4 (.int .i64 (-1))) W → Ps w lo hi q K (lapF q K (p + 1)) W) := Lib.hid fun W p hp hf hM hP => by
    obtain ⟨h1, h2, h3⟩ := pos_of hm1 hp
    exact hP.congr (lapF_top h.ok h3 h1 h2 hf hM)
  have okb := Lib.hid h.ok.bnd
  clear h fr hm1 hcN
  generalize (lapse K).1 = K9 at *
  obtain ⟨N, hN⟩ : ∃ N, N = K.n * K.m := ⟨_, rfl⟩
  rw [← hN] at END BX hcl HERE CS MISS LOW TOP CE ST hs ⊢
  clear hN
  go_enter Try.func30, Try.ntmps30
  go_wp2
  go_loopw [4, 3] (fun nx cx wr => ∃ p : Nat, p ≤ N ∧ nx = .int .i64 p ∧ cx = .int .i64 (cnt K p : Nat) ∧ Hid (Ps w lo hi q K (lapF q K p) wr)) (fun nx _ _ => N - (intOf nx).toNat)
  case atStart => exact ⟨0, Nat.zero_le _, rfl, by rw [hc0.out]; rfl, START⟩
  case round =>
    obtain ⟨p, hp, rfl, rfl, HP⟩ := hrel
    clear START hc0
    have c0 := BX.out _ _ HP.out
    by_cases hpl : p < N
    · have t1 : (p : Int) < (N : Int) := by omega
      have cl := hcl.out p hp
      have cs := CS.out p hpl
      obtain ⟨s2, _⟩ := CE.out _ _ p 2 hpl (by decide) HP.out
      obtain ⟨s3, _⟩ := CE.out _ _ p 3 hpl (by decide) HP.out
      obtain ⟨s4, _⟩ := CE.out _ _ p 4 hpl (by decide) HP.out
      rw [HERE.out p _ hpl] at s2 s3 s4
      replace s2 : wr.cell? ⟨q.b, p * 6 + 2, none⟩ = some (.int .i64 (K.gen (p / K.m) (p % K.m) : Int)) := s2
      replace s3 : wr.cell? ⟨q.b, p * 6 + 3, none⟩ = some (.int .i64 (K.bnd (p / K.m) (p % K.m) : Int)) := s3
      replace s4 : wr.cell? ⟨q.b, p * 6 + 4, none⟩ = some (.int .i64 (rowNo q K (p / K.m) (p % K.m))) := s4
      by_cases e2 : p % K.m ∈ K.row (p / K.m)
      · have hr := rowNo_in (q := q) e2
        have t4 : decide (rowNo q K (p / K.m) (p % K.m) < 0) = false := by rw [hr]; exact decide_eq_false (by omega)
        by_cases e3 : K.gen (p / K.m) (p % K.m) < K.bnd (p / K.m) (p % K.m)
        · have hf : flag K (p / K.m) (p % K.m) = true := flag_iff.2 ⟨e2, e3⟩
          rw [if_pos hf] at cs
          have t5 : decide ((K.gen (p / K.m) (p % K.m) : Int) ≥ (K.bnd (p / K.m) (p % K.m) : Int)) = false := decide_eq_false (by omega)
          have hbM := okb.out (p / K.m) (p % K.m)
          by_cases hM : K.bnd (p / K.m) (p % K.m) < MG
          · have NX : Hid (∀ W, Ps w lo hi q K (up3 (lapF q K p) (p / K.m) (p % K.m) 2 (.int .i64 (K.bnd (p / K.m) (p % K.m) : Int))) W → Ps w lo hi q K (lapF q K (p + 1)) W) := Lib.hid fun W => LOW.out W p hpl hf hM
            have t6 : ((K.bnd (p / K.m) (p % K.m) : Int) == 1048576) = false := beq_eq_false_iff_ne.2 (by unfold MG at hM; omega)
            have P1 : Hid (∀ n, Ps w lo hi q K (lapF q K p) (wr.drewN n)) := Lib.hid fun n => HP.out.drewN n
            have cs' := Lib.hid cs
            have E3 : Hid (lapF q K p (p / K.m) (p % K.m) 3 = .int .i64 (K.bnd (p / K.m) (p % K.m) : Int)) := Lib.hid (HERE.out p 3 hpl)
            clear HP e2 hr e3 hf hbM hM END hcl HERE CS MISS LOW TOP okb cs
            generalize lapF q K p = f0 at *
            generalize rowNo q K (p / K.m) (p % K.m) = y4 at *
            generalize (K.gen (p / K.m) (p % K.m) : Int) = y2 at *
            generalize (K.bnd (p / K.m) (p % K.m) : Int) = y3 at *
            generalize cnt K p = c at *
            replace cs' := cs'.out
            go_wp2
            go_quiet (fail)
            rename_i nq
            have P2 := P1.out nq
            clear P1 c0 s2 s3 s4
            generalize wr.drewN nq = w1 at *
            have b0 := BX.out _ _ P2
            obtain ⟨r3, g3⟩ := CE.out _ _ p 3 hpl (by decide) P2
            rw [E3.out] at r3
            go_wp2
            go_still_tail 15, (by kernel_rfl)
            change wpList _ _ _ _ _ w1.drew
            have P2 := P2.drew
            clear b0 r3 g3
            generalize w1.drew = w2 at *
            obtain ⟨r2, g2⟩ := CE.out _ _ p 2 hpl (by decide) P2
            have P3 := Lib.hid (ST.out _ _ p 2 (.int .i64 y3) hpl (by decide) P2)
            clear P2
            have b0 := BX.out _ _ P3.out
            obtain ⟨q2, _⟩ := CE.out _ _ p 2 hpl (by decide) P3.out
            rw [up3_same] at q2
            go_wp2
            go_roundw
            case rel => exact ⟨p + 1, by omega, by go_num, by rw [cs']; go_num, Lib.hid (NX.out _ P3.out)⟩
            case measure => simp [intOf]; omega
          · have NX : Hid (∀ W, Ps w lo hi q K (up3 (up3 (lapF q K p) (p / K.m) (p % K.m) 2 (.int .i64 (K.bnd (p / K.m) (p % K.m) : Int))) (p / K.m) (p % K.m) 4 (.int .i64 (-1))) W → Ps w lo hi q K (lapF q K (p + 1)) W) := Lib.hid fun W => TOP.out W p hpl hf hM
            have t6 : ((K.bnd (p / K.m) (p % K.m) : Int) == 1048576) = true := beq_iff_eq.2 (by unfold MG at hM hbM; omega)
            have P1 : Hid (∀ n, Ps w lo hi q K (lapF q K p) (wr.drewN n)) := Lib.hid fun n => HP.out.drewN n
            have cs' := Lib.hid cs
            have E3 : Hid (lapF q K p (p / K.m) (p % K.m) 3 = .int .i64 (K.bnd (p / K.m) (p % K.m) : Int)) := Lib.hid (HERE.out p 3 hpl)
            clear HP e2 hr e3 hf hbM hM END hcl HERE CS MISS LOW TOP okb cs
            generalize lapF q K p = f0 at *
            generalize rowNo q K (p / K.m) (p % K.m) = y4 at *
            generalize (K.gen (p / K.m) (p % K.m) : Int) = y2 at *
            generalize (K.bnd (p / K.m) (p % K.m) : Int) = y3 at *
            generalize cnt K p = c at *
            replace cs' := cs'.out
            go_wp2
            go_quiet (fail)
            rename_i nq
            have P2 := P1.out nq
            clear P1 c0 s2 s3 s4
            generalize wr.drewN nq = w1 at *
            have b0 := BX.out _ _ P2
            obtain ⟨r3, g3⟩ := CE.out _ _ p 3 hpl (by decide) P2
            rw [E3.out] at r3
            go_wp2
            go_still_tail 15, (by kernel_rfl)
            change wpList _ _ _ _ _ w1.drew
            have P2 := P2.drew
            clear b0 r3 g3
            generalize w1.drew = w2 at *
            obtain ⟨r2, g2⟩ := CE.out _ _ p 2 hpl (by decide) P2
            have P3 := Lib.hid (ST.out _ _ p 2 (.int .i64 y3) hpl (by decide) P2)
            clear P2
            have b0 := BX.out _ _ P3.out
            obtain ⟨q2, _⟩ := CE.out _ _ p 2 hpl (by decide) P3.out
            rw [up3_same] at q2
            obtain ⟨r4, g4⟩ := CE.out _ _ p 4 hpl (by decide) P3.out
            have P4 := Lib.hid (ST.out _ _ p 4 (.int .i64 (-1)) hpl (by decide) P3.out)
            clear P3
            go_wp2
            go_roundw
            case rel => exact ⟨p + 1, by omega, by go_num, by rw [cs']; go_num, Lib.hid (NX.out _ P4.out)⟩
            case measure => simp [intOf]; omega
        · have hf : ¬ flag K (p / K.m) (p % K.m) = true := fun t => e3 (flag_iff.1 t).2
          rw [if_neg hf, Nat.add_zero] at cs
          have t5 : decide ((K.gen (p / K.m) (p % K.m) : Int) ≥ (K.bnd (p / K.m) (p % K.m) : Int)) = true := decide_eq_true (by omega)
          have P1 : Hid (∀ n, Ps w lo hi q K (lapF q K (p + 1)) (wr.drewN n)) := Lib.hid fun n => MISS.out _ p hpl hf (HP.out.drewN n)
          have cs' := Lib.hid cs
          clear HP e2 hr e3 hf END hcl HERE CS MISS LOW TOP okb CE ST cs
          generalize rowNo q K (p / K.m) (p % K.m) = y4 at *
          generalize (K.gen (p / K.m) (p % K.m) : Int) = y2 at *
          generalize (K.bnd (p / K.m) (p % K.m) : Int) = y3 at *
          generalize cnt K p = c at *
          go_wp2
          go_quiet (fail)
          go_wp2
          go_roundw
          case rel => exact ⟨p + 1, by omega, by go_num, by rw [cs'.out, Nat.add_zero], P1.out _ |> Lib.hid⟩
          case measure => simp [intOf]; omega
      · have hf : ¬ flag K (p / K.m) (p % K.m) = true := fun t => e2 (flag_iff.1 t).1
        have hr := rowNo_out (q := q) e2
        have t4 : decide (rowNo q K (p / K.m) (p % K.m) < 0) = true := by rw [hr]; decide
        rw [if_neg hf, Nat.add_zero] at cs
        have P1 : Hid (∀ n, Ps w lo hi q K (lapF q K (p + 1)) (wr.drewN n)) := Lib.hid fun n => MISS.out _ p hpl hf (HP.out.drewN n)
        have cs' := Lib.hid cs
        clear HP e2 hr hf END hcl HERE CS MISS LOW TOP okb CE ST cs
        generalize rowNo q K (p / K.m) (p % K.m) = y4 at *
        generalize (K.gen (p / K.m) (p % K.m) : Int) = y2 at *
        generalize (K.bnd (p / K.m) (p % K.m) : Int) = y3 at *
        generalize cnt K p = c at *
        go_wp2
        go_quiet (fail)
        go_wp2
        go_roundw
        case rel => exact ⟨p + 1, by omega, by go_num, by rw [cs'.out, Nat.add_zero], P1.out _ |> Lib.hid⟩
        case measure => simp [intOf]; omega
    · obtain rfl : p = N := by omega
      have t1 : ¬ (p : Int) < (p : Int) := by omega
      have HE := Lib.hid (END.out wr HP.out)
      clear END BX hcl HERE CS MISS LOW TOP CE ST HP okb
      go_wp2
      go_ret
      exact ⟨rfl, HE.out⟩
end
end Go.Proofs.Ytdanpdlbbgcidaa
