/- The document's Zone: what it answers. -/
import Derived.Test.YtljaahemlcaffaaGreatK29
import Derived.Test.YtljaahemlcaffaaGreatK14
namespace Go.Proofs.YtljaahemlcaffaaGreat
open Go.RowKit
open Zn (Ok There)

theorem jc_bd {C R S D V : Int} (ok : Ok C R S D V) {j : Nat} (hj : (j : Int) < R) : 0 ≤ (j : Int) * C ∧ (j : Int) * C + C ≤ 16 ∧ (j : Int) * C + C ≤ C * R ∧ ((j + 1 : Nat) : Int) * C = (j : Int) * C + C := by
  have h0 : ((j + 1 : Nat) : Int) * C = (j : Int) * C + C := by rw [show ((j + 1 : Nat) : Int) = (j : Int) + 1 by omega, Int.add_mul, Int.one_mul]
  have h1 : 0 ≤ (j : Int) * C := Int.mul_nonneg (by omega) (by have := ok.c0; omega)
  have h2 : ((j + 1 : Nat) : Int) * C ≤ R * C := Int.mul_le_mul_of_nonneg_right (by omega) (by have := ok.c0; omega)
  have h3 := Zn.mul_bd ok
  rw [Int.mul_comm R C] at h2
  omega
theorem zone_at {C R S D V k : Int} (ok : Ok C R S D V) {i j : Nat} (hi : (i : Int) < C) (hj : (j : Int) < R) (hk : k = (j : Int) * C + i) : Zn.zone C R S k = ⟨(i : Int) * S, (j : Int) * S, ((i : Int) + 1) * S, ((j : Int) + 1) * S⟩ := by
  have b := jc_bd ok hj
  have e1 : k % C = i := by rw [hk, Int.add_comm, Int.mul_comm, Int.add_mul_emod_self_left, Int.emod_eq_of_lt (by omega) hi]
  have e2 : k / C = j := by rw [hk, Int.add_comm, Int.add_mul_ediv_right _ _ (by have := ok.c0; omega), Int.ediv_eq_zero_of_lt (by omega) hi]; omega
  rw [Zn.zone_yes ⟨by omega, by omega⟩, e1, e2, Int.add_mul, Int.one_mul, Int.add_mul, Int.one_mul]

/-- the config's box, the result's -/
def RzRel (w : World) (C R S D V N Q : Int) (wr : World) : Prop :=
  Below w.heap.size w wr ∧ wr.heap[w.heap.size]? = C7 C R S D V N Q ∧ wr.heap[w.heap.size + 1]? = some (.cells #[.int .i64 0, .int .i64 0, .int .i64 0, .int .i64 0] 85 (0, 0))
theorem rz_start (w : World) (C R S D V N Q : Int) : RzRel w C R S D V N Q ((w.alloc (.cells #[.int .i64 C, .int .i64 R, .int .i64 S, .int .i64 D, .int .i64 V, .int .i64 N, .int .i64 Q] 23)).alloc (.cells #[.int .i64 0, .int .i64 0, .int .i64 0, .int .i64 0] 85)) :=
  ⟨bel2 _ _ _, at2a _ _ _, at2b _ _ _⟩
set_option maxHeartbeats 4000000 in
set_option maxRecDepth 100000 in
theorem rzone_any (C R S D V N Q k : Int) (w : World) (ok : Ok C R S D V) (hk : I k) :
    Calls Tryz.prog 43 #[.agg #[.int .i64 C, .int .i64 R, .int .i64 S, .int .i64 D, .int .i64 V, .int .i64 N, .int .i64 Q], .int .i64 k] w fun e w' => e = .returned (.agg #[.int .i64 (Zn.zone C R S k).a, .int .i64 (Zn.zone C R S k).b, .int .i64 (Zn.zone C R S k).c, .int .i64 (Zn.zone C R S k).d]) ∧ Below w.heap.size w w' := by
  have OK := Lib.hid ok
  have HKI := Lib.hid hk
  clear hk
  have c0 := ok.c0
  have c1 := ok.c1
  have r0 := ok.r0
  have r1 := ok.r1
  clear ok
  have HZ := Lib.hid (rfl : Zn.zone C R S k = Zn.zone C R S k)
  generalize hz : Zn.zone C R S k = z at HZ ⊢
  have HZ' := Lib.hid hz
  clear hz HZ
  go_enter Tryz.func43, Tryz.ntmps43
  go_wp2
  go_loopw [5, 6] (fun s _ wr => ∃ j : Nat, (j : Int) ≤ R ∧ s = .int .i64 j ∧ Hid (¬ (0 ≤ k ∧ k < (j : Int) * C)) ∧ Hid (RzRel w C R S D V N Q wr)) (fun s _ _ => (R - intOf s).toNat)
  case atStart => exact ⟨0, by omega, rfl, Lib.hid (by omega), Lib.hid (rz_start _ _ _ _ _ _ _ _)⟩
  case round =>
    obtain ⟨j, hj, rfl, hno, hrz⟩ := hrel
    obtain ⟨k0, k1, k2, k3, k4, k5, k6⟩ := (box7 hrz.out.2.1).1
    by_cases hlt : (j : Int) < R
    · have jb := jc_bd OK.out hlt
      have HJ := Lib.hid jb.2.2
      go_wp2
      go_loopw [6] (fun t wr' => ∃ i : Nat, (i : Int) ≤ C ∧ t = .int .i64 i ∧ Hid (¬ ((j : Int) * C ≤ k ∧ k < (j : Int) * C + i)) ∧ Hid (RzRel w C R S D V N Q wr')) (fun t _ => (C - intOf t).toNat)
      case atStart => exact ⟨0, by omega, rfl, Lib.hid (by omega), hrz⟩
      case round =>
        obtain ⟨i, hi, rfl, hni, hrz'⟩ := hrel
        clear k0 k1 k2 k3 k4 k5 k6 hrz
        obtain ⟨k0, k1, k2, k3, k4, k5, k6⟩ := (box7 hrz'.out.2.1).1
        by_cases hlt2 : (i : Int) < C
        · have w0 : IntKind.i64.wrap ((j : Int) * C) = (j : Int) * C := IntWalk.i64_in _ ⟨by omega, by omega⟩
          have w1 : IntKind.i64.wrap ((j : Int) * C + i) = (j : Int) * C + i := IntWalk.i64_in _ ⟨by omega, by omega⟩
          by_cases he : (j : Int) * C + i = k
          · have wk : IntKind.i64.wrap k = k := IntWalk.i64_in _ HKI.out
            have Z := HZ'.out
            rw [zone_at OK.out hlt2 hlt he.symm] at Z
            have b1 := Zn.side_bd (q := (i : Int)) OK.out.s0 OK.out.s1 (by omega) (by omega)
            have b2 := Zn.side_bd (q := (j : Int)) OK.out.s0 OK.out.s1 (by omega) (by omega)
            have b3 := Zn.side_bd (q := (i : Int) + 1) OK.out.s0 OK.out.s1 (by omega) (by omega)
            have b4 := Zn.side_bd (q := (j : Int) + 1) OK.out.s0 OK.out.s1 (by omega) (by omega)
            have w2 : IntKind.i64.wrap ((i : Int) * S) = (i : Int) * S := IntWalk.i64_in _ ⟨by omega, by omega⟩
            have w3 : IntKind.i64.wrap ((j : Int) * S) = (j : Int) * S := IntWalk.i64_in _ ⟨by omega, by omega⟩
            have w4 : IntKind.i64.wrap (((i : Int) + 1) * S) = ((i : Int) + 1) * S := IntWalk.i64_in _ ⟨by omega, by omega⟩
            have w5 : IntKind.i64.wrap (((j : Int) + 1) * S) = ((j : Int) + 1) * S := IntWalk.i64_in _ ⟨by omega, by omega⟩
            obtain ⟨⟨l0, l1, l2, l3⟩, f0, f1, f2, f3⟩ := box4 hrz'.out.2.2
            subst Z
            have HB := Lib.hid hrz'.out.1
            clear hrz' hni hno HJ jb b1 b2 b3 b4 HZ'
            go_wp2
            exact bodyPost_ret (v := .agg #[.int .i64 _, .int .i64 _, .int .i64 _, .int .i64 _]) (by simp [results, Tryz.results43, go_sem, l0, l1, l2, l3]) rfl ⟨rfl, set4 HB.out _ (by omega) _ _ _ _⟩
          · go_wp2
            go_roundw
            case rel => exact ⟨i + 1, by omega, by go_num, Lib.hid (by have := hni.out; omega), hrz'⟩
            case measure => simp [intOf]; omega
        · obtain hiC : (i : Int) = C := by omega
          go_wp2
          go_roundw
          case rel => exact ⟨j + 1, by omega, by go_num, Lib.hid (by have := hni.out; have := hno.out; have := HJ.out.2; omega), hrz'⟩
          case measure => simp [intOf]; omega
    · obtain hjR : (j : Int) = R := by omega
      have Z := HZ'.out
      rw [Zn.zone_no (by have := hno.out; rw [hjR, Int.mul_comm] at this; exact this)] at Z
      obtain ⟨⟨l0, l1, l2, l3⟩, f0, f1, f2, f3⟩ := box4 hrz.out.2.2
      subst Z
      have HB := Lib.hid hrz.out.1
      clear hrz hno HZ' hjR
      go_wp2
      exact bodyPost_ret (v := .agg #[.int .i64 0, .int .i64 0, .int .i64 0, .int .i64 0]) (by simp [results, Tryz.results43, go_sem, l0, l1, l2, l3]) rfl ⟨rfl, set4 HB.out _ (by omega) _ _ _ _⟩
end Go.Proofs.YtljaahemlcaffaaGreat
