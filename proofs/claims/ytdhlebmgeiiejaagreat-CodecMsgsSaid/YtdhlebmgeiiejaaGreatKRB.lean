/- CdRBI, CdRBB, CdRBC, in one text. -/
import Derived.Test.YtdhlebmgeiiejaaGreatKCdListI
import Derived.Test.YtdhlebmgeiiejaaGreatKRef
import Derived.Test.YtdhlebmgeiiejaaGreatKCdListB
import Derived.Test.YtdhlebmgeiiejaaGreatKCdRef3
import Derived.Test.YtdhlebmgeiiejaaGreatKCdListC
namespace Go.Proofs.YtdhlebmgeiiejaaGreat
open Go.RowKit Pz Cd
set_option linter.unusedVariables false
set_option linter.unusedSimpArgs false

set_option maxHeartbeats 16000000 in
set_option maxRecDepth 100000 in
theorem rlist_id {A : Option Addr} {cap : Nat} {l : List NKy} {w : World} (R : RdI3 w w.heap.size A l) (hl : l.length ≤ 1000000) :
    Calls Tryz.prog 73 #[.slice A l.length cap] w fun e w' => e = .returned (.string ⟨(kID.putL l).toArray⟩) ∧ Below w.heap.size w w' := by
  have C0 := Lib.hid (rlay (l.length : Int) ⟨by omega, by omega⟩ w)
  have h0 := Oct.enc_length_le (l.length : Int)
  have AT : Hid (∀ W, Below w.heap.size w W → ∀ j (hj : j < l.length), ∃ ga oa, A = some ⟨ga, oa, none⟩ ∧ (W.cell? ⟨ga, oa + j * 3, none⟩ = some (.int .i64 l[j].1) ∧ W.cell? ⟨ga, oa + j * 3 + 1, none⟩ = some (.int .i64 l[j].2.1) ∧ W.cell? ⟨ga, oa + j * 3 + 2, none⟩ = some (.int .i64 l[j].2.2))) := Lib.hid fun W hW j hj => by
    obtain ⟨ga, oa, e, _, k1⟩ := (R.below hW) j _ (List.getElem?_eq_getElem hj)
    exact ⟨ga, oa, e, k1⟩
  have PL : Hid (kID.putL l = Oct.enc (l.length : Int) ++ kID.puts (l.take l.length)) := Lib.hid (by rw [List.take_length]; rfl)
  have P0 : Oct.enc (l.length : Int) = Oct.enc (l.length : Int) ++ kID.puts (l.take 0) := by rw [List.take_zero, show kID.puts [] = [] from rfl, List.append_nil]
  clear R
  go_enter Tryz.func73, Tryz.ntmps73
  go_wp2_with fail
  refine C0.out.mono ?_
  rintro e w1 ⟨rfl, hb⟩
  replace hb := Lib.hid hb
  replace P0 := Lib.hid P0
  clear C0
  go_wp2
  go_loopw [3, 4] (fun v ix wr => ∃ k : Nat, k ≤ l.length ∧ v = .string ⟨(Oct.enc (l.length : Int) ++ kID.puts (l.take k)).toArray⟩ ∧ ix = .int .i64 k ∧ Hid (Below w.heap.size w wr)) (fun _ ix _ => l.length - (intOf ix).toNat)
  case atStart => exact ⟨0, Nat.zero_le _, by rw [← P0.out], rfl, hb⟩
  case round =>
    obtain ⟨k, hk, rfl, rfl, HB⟩ := hrel
    clear hb P0
    by_cases hkl : k < l.length
    · have t1 : (k : Int) < (l.length : Int) := by omega
      obtain ⟨ga, oa, rfl, c0, c1, c2⟩ := AT.out wr HB.out k hkl
      have CP : Hid (∀ W, Calls Tryz.prog 93 #[.agg #[.int .i64 l[k].1, .int .i64 l[k].2.1, .int .i64 l[k].2.2]] W fun e w' => e = .returned (.string ⟨(putID l[k]).toArray⟩) ∧ Below W.heap.size W w') := Lib.hid fun W => rid_any l[k].1 l[k].2.1 l[k].2.2 W
      have NX : (Oct.enc (l.length : Int) ++ kID.puts (l.take k)) ++ putID l[k] = Oct.enc (l.length : Int) ++ kID.puts (l.take (k + 1)) := by rw [List.take_succ_eq_append_getElem hkl, puts_snoc_id, List.append_assoc]
      have SM := cd_sum (Oct.enc (l.length : Int) ++ kID.puts (l.take k)) (putID l[k]) (by
        have h1 := puts_len_id (l.take k)
        have h2 := put_len_id l[k]
        have h3 : (l.take k).length ≤ l.length := by rw [List.length_take]; omega
        rw [List.length_append]
        omega)
      rw [NX] at SM
      clear AT PL NX
      generalize Oct.enc (l.length : Int) ++ kID.puts (l.take k) = acc at *
      generalize hnx : Oct.enc (l.length : Int) ++ kID.puts (l.take (k + 1)) = nx at *
      replace hnx := Lib.hid hnx
      generalize putID l[k] = ps at *
      generalize hx : l[k] = x at *
      clear hx
      obtain ⟨x0, x1, x2⟩ := x
      go_wp2_with fail
      refine (CP.out _).mono ?_
      rintro e w3 ⟨rfl, hb⟩
      replace HB := Lib.hid (HB.out.trans (hb.mono HB.out.size))
      clear hb CP c0 c1 c2
      go_wp2
      go_roundw
      case rel => exact ⟨k + 1, by omega, by rw [hnx.out], by go_num, HB⟩
      case measure => simp [intOf]; omega
    · obtain rfl : k = l.length := by omega
      have t1 : ¬ (l.length : Int) < (l.length : Int) := by omega
      clear AT
      generalize Oct.enc (l.length : Int) ++ kID.puts (l.take l.length) = acc at *
      generalize l.length = n at *
      go_wp2
      go_ret
      rw [PL.out]
      exact ⟨rfl, HB.out⟩
end Go.Proofs.YtdhlebmgeiiejaaGreat
namespace Go.Proofs.YtdhlebmgeiiejaaGreat
open Go.RowKit Pz Cd
set_option linter.unusedVariables false
set_option linter.unusedSimpArgs false

set_option maxHeartbeats 16000000 in
set_option maxRecDepth 100000 in
theorem rlist_b {A : Option Addr} {cap : Nat} {l : List Bn} {w : World} (R : RdB w w.heap.size A l) (hl : l.length ≤ 1000000) (HF : ∀ x ∈ l, x.Fits) :
    Calls Tryz.prog 18 #[.slice A l.length cap] w fun e w' => e = .returned (.string ⟨(kB.putL l).toArray⟩) ∧ Below w.heap.size w w' := by
  replace HF := Lib.hid HF
  have C0 := Lib.hid (rlay (l.length : Int) ⟨by omega, by omega⟩ w)
  have h0 := Oct.enc_length_le (l.length : Int)
  have AT : Hid (∀ W, Below w.heap.size w W → ∀ j (hj : j < l.length), ∃ ga oa, A = some ⟨ga, oa, none⟩ ∧ (W.cell? ⟨ga, oa + j * 11, none⟩ = some (.int .i64 l[j].s) ∧ W.cell? ⟨ga, oa + j * 11 + 1, none⟩ = some (.int .i64 l[j].i) ∧ W.cell? ⟨ga, oa + j * 11 + 2, none⟩ = some (.int .i64 l[j].g) ∧ W.cell? ⟨ga, oa + j * 11 + 3, none⟩ = some (.int .i64 l[j].m) ∧ W.cell? ⟨ga, oa + j * 11 + 4, none⟩ = some (.int .i64 l[j].x) ∧ W.cell? ⟨ga, oa + j * 11 + 5, none⟩ = some (.int .i64 l[j].y) ∧ W.cell? ⟨ga, oa + j * 11 + 6, none⟩ = some (.int .i64 l[j].vx) ∧ W.cell? ⟨ga, oa + j * 11 + 7, none⟩ = some (.int .i64 l[j].vy) ∧ W.cell? ⟨ga, oa + j * 11 + 8, none⟩ = some (.int .i64 l[j].h) ∧ W.cell? ⟨ga, oa + j * 11 + 9, none⟩ = some (.int .i64 l[j].p) ∧ W.cell? ⟨ga, oa + j * 11 + 10, none⟩ = some (.int .i64 l[j].l))) := Lib.hid fun W hW j hj => by
    obtain ⟨ga, oa, e, _, k1⟩ := (R.below hW) j _ (List.getElem?_eq_getElem hj)
    exact ⟨ga, oa, e, k1⟩
  have PL : Hid (kB.putL l = Oct.enc (l.length : Int) ++ kB.puts (l.take l.length)) := Lib.hid (by rw [List.take_length]; rfl)
  have P0 : Oct.enc (l.length : Int) = Oct.enc (l.length : Int) ++ kB.puts (l.take 0) := by rw [List.take_zero, show kB.puts [] = [] from rfl, List.append_nil]
  clear R
  go_enter Tryz.func18, Tryz.ntmps18
  go_wp2_with fail
  refine C0.out.mono ?_
  rintro e w1 ⟨rfl, hb⟩
  replace hb := Lib.hid hb
  replace P0 := Lib.hid P0
  clear C0
  go_wp2
  go_loopw [3, 4] (fun v ix wr => ∃ k : Nat, k ≤ l.length ∧ v = .string ⟨(Oct.enc (l.length : Int) ++ kB.puts (l.take k)).toArray⟩ ∧ ix = .int .i64 k ∧ Hid (Below w.heap.size w wr)) (fun _ ix _ => l.length - (intOf ix).toNat)
  case atStart => exact ⟨0, Nat.zero_le _, by rw [← P0.out], rfl, hb⟩
  case round =>
    obtain ⟨k, hk, rfl, rfl, HB⟩ := hrel
    clear hb P0
    by_cases hkl : k < l.length
    · have t1 : (k : Int) < (l.length : Int) := by omega
      obtain ⟨ga, oa, rfl, c0, c1, c2, c3, c4, c5, c6, c7, c8, c9, c10⟩ := AT.out wr HB.out k hkl
      have CP : Hid (∀ W, Calls Tryz.prog 59 #[.agg #[.int .i64 l[k].s, .int .i64 l[k].i, .int .i64 l[k].g, .int .i64 l[k].m, .int .i64 l[k].x, .int .i64 l[k].y, .int .i64 l[k].vx, .int .i64 l[k].vy, .int .i64 l[k].h, .int .i64 l[k].p, .int .i64 l[k].l]] W fun e w' => e = .returned (.string ⟨(putB l[k]).toArray⟩) ∧ Below W.heap.size W w') := Lib.hid fun W => rbundle_any l[k] (HF.out _ (List.getElem_mem hkl)) W
      have NX : (Oct.enc (l.length : Int) ++ kB.puts (l.take k)) ++ putB l[k] = Oct.enc (l.length : Int) ++ kB.puts (l.take (k + 1)) := by rw [List.take_succ_eq_append_getElem hkl, puts_snoc_b, List.append_assoc]
      have SM := cd_sum (Oct.enc (l.length : Int) ++ kB.puts (l.take k)) (putB l[k]) (by
        have h1 := puts_len_b (l.take k)
        have h2 := put_len_b l[k]
        have h3 : (l.take k).length ≤ l.length := by rw [List.length_take]; omega
        rw [List.length_append]
        omega)
      rw [NX] at SM
      clear AT PL NX HF
      generalize Oct.enc (l.length : Int) ++ kB.puts (l.take k) = acc at *
      generalize hnx : Oct.enc (l.length : Int) ++ kB.puts (l.take (k + 1)) = nx at *
      replace hnx := Lib.hid hnx
      generalize putB l[k] = ps at *
      generalize hx : l[k] = x at *
      clear hx
      obtain ⟨xs, xi, xg, xm, xx, xy, xvx, xvy, xh, xp, xl⟩ := x
      go_wp2_with fail
      refine (CP.out _).mono ?_
      rintro e w3 ⟨rfl, hb⟩
      replace HB := Lib.hid (HB.out.trans (hb.mono HB.out.size))
      clear hb CP c0 c1 c2 c3 c4 c5 c6 c7 c8 c9 c10
      go_wp2
      go_roundw
      case rel => exact ⟨k + 1, by omega, by rw [hnx.out], by go_num, HB⟩
      case measure => simp [intOf]; omega
    · obtain rfl : k = l.length := by omega
      have t1 : ¬ (l.length : Int) < (l.length : Int) := by omega
      clear AT
      generalize Oct.enc (l.length : Int) ++ kB.puts (l.take l.length) = acc at *
      generalize l.length = n at *
      go_wp2
      go_ret
      rw [PL.out]
      exact ⟨rfl, HB.out⟩
end Go.Proofs.YtdhlebmgeiiejaaGreat
namespace Go.Proofs.YtdhlebmgeiiejaaGreat
open Go.RowKit Pz Cd
set_option linter.unusedVariables false
set_option linter.unusedSimpArgs false

set_option maxHeartbeats 16000000 in
set_option maxRecDepth 100000 in
theorem rlist_c {A : Option Addr} {cap : Nat} {l : List Cn} {w : World} (R : RdC w w.heap.size A l) (hl : l.length ≤ 1000000) (HF : ∀ x ∈ l, (FitN x.k ∧ FitN x.m ∧ x.b.Fits)) :
    Calls Tryz.prog 72 #[.slice A l.length cap] w fun e w' => e = .returned (.string ⟨(kC.putL l).toArray⟩) ∧ Below w.heap.size w w' := by
  replace HF := Lib.hid HF
  have C0 := Lib.hid (rlay (l.length : Int) ⟨by omega, by omega⟩ w)
  have h0 := Oct.enc_length_le (l.length : Int)
  have AT : Hid (∀ W, Below w.heap.size w W → ∀ j (hj : j < l.length), ∃ ga oa, A = some ⟨ga, oa, none⟩ ∧ (W.cell? ⟨ga, oa + j * 16, none⟩ = some (.int .i64 l[j].k) ∧ W.cell? ⟨ga, oa + j * 16 + 1, none⟩ = some (.int .i64 l[j].s) ∧ W.cell? ⟨ga, oa + j * 16 + 2, none⟩ = some (.int .i64 l[j].i) ∧ W.cell? ⟨ga, oa + j * 16 + 3, none⟩ = some (.int .i64 l[j].g) ∧ W.cell? ⟨ga, oa + j * 16 + 4, none⟩ = some (.int .i64 l[j].b.s) ∧ W.cell? ⟨ga, oa + j * 16 + 5, none⟩ = some (.int .i64 l[j].b.i) ∧ W.cell? ⟨ga, oa + j * 16 + 6, none⟩ = some (.int .i64 l[j].b.g) ∧ W.cell? ⟨ga, oa + j * 16 + 7, none⟩ = some (.int .i64 l[j].b.m) ∧ W.cell? ⟨ga, oa + j * 16 + 8, none⟩ = some (.int .i64 l[j].b.x) ∧ W.cell? ⟨ga, oa + j * 16 + 9, none⟩ = some (.int .i64 l[j].b.y) ∧ W.cell? ⟨ga, oa + j * 16 + 10, none⟩ = some (.int .i64 l[j].b.vx) ∧ W.cell? ⟨ga, oa + j * 16 + 11, none⟩ = some (.int .i64 l[j].b.vy) ∧ W.cell? ⟨ga, oa + j * 16 + 12, none⟩ = some (.int .i64 l[j].b.h) ∧ W.cell? ⟨ga, oa + j * 16 + 13, none⟩ = some (.int .i64 l[j].b.p) ∧ W.cell? ⟨ga, oa + j * 16 + 14, none⟩ = some (.int .i64 l[j].b.l) ∧ W.cell? ⟨ga, oa + j * 16 + 15, none⟩ = some (.int .i64 l[j].m))) := Lib.hid fun W hW j hj => by
    obtain ⟨ga, oa, e, _, k1⟩ := (R.below hW) j _ (List.getElem?_eq_getElem hj)
    exact ⟨ga, oa, e, k1⟩
  have PL : Hid (kC.putL l = Oct.enc (l.length : Int) ++ kC.puts (l.take l.length)) := Lib.hid (by rw [List.take_length]; rfl)
  have P0 : Oct.enc (l.length : Int) = Oct.enc (l.length : Int) ++ kC.puts (l.take 0) := by rw [List.take_zero, show kC.puts [] = [] from rfl, List.append_nil]
  clear R
  go_enter Tryz.func72, Tryz.ntmps72
  go_wp2_with fail
  refine C0.out.mono ?_
  rintro e w1 ⟨rfl, hb⟩
  replace hb := Lib.hid hb
  replace P0 := Lib.hid P0
  clear C0
  go_wp2
  go_loopw [3, 4] (fun v ix wr => ∃ k : Nat, k ≤ l.length ∧ v = .string ⟨(Oct.enc (l.length : Int) ++ kC.puts (l.take k)).toArray⟩ ∧ ix = .int .i64 k ∧ Hid (Below w.heap.size w wr)) (fun _ ix _ => l.length - (intOf ix).toNat)
  case atStart => exact ⟨0, Nat.zero_le _, by rw [← P0.out], rfl, hb⟩
  case round =>
    obtain ⟨k, hk, rfl, rfl, HB⟩ := hrel
    clear hb P0
    by_cases hkl : k < l.length
    · have t1 : (k : Int) < (l.length : Int) := by omega
      obtain ⟨ga, oa, rfl, c0, c1, c2, c3, c4, c5, c6, c7, c8, c9, c10, c11, c12, c13, c14, c15⟩ := AT.out wr HB.out k hkl
      have CP : Hid (∀ W, Calls Tryz.prog 100 #[.agg #[.int .i64 l[k].k, .int .i64 l[k].s, .int .i64 l[k].i, .int .i64 l[k].g, .int .i64 l[k].b.s, .int .i64 l[k].b.i, .int .i64 l[k].b.g, .int .i64 l[k].b.m, .int .i64 l[k].b.x, .int .i64 l[k].b.y, .int .i64 l[k].b.vx, .int .i64 l[k].b.vy, .int .i64 l[k].b.h, .int .i64 l[k].b.p, .int .i64 l[k].b.l, .int .i64 l[k].m]] W fun e w' => e = .returned (.string ⟨(putC l[k]).toArray⟩) ∧ Below W.heap.size W w') := Lib.hid fun W => rcmd_any l[k] (HF.out _ (List.getElem_mem hkl)).1 (HF.out _ (List.getElem_mem hkl)).2.1 (HF.out _ (List.getElem_mem hkl)).2.2 W
      have NX : (Oct.enc (l.length : Int) ++ kC.puts (l.take k)) ++ putC l[k] = Oct.enc (l.length : Int) ++ kC.puts (l.take (k + 1)) := by rw [List.take_succ_eq_append_getElem hkl, puts_snoc_c, List.append_assoc]
      have SM := cd_sum (Oct.enc (l.length : Int) ++ kC.puts (l.take k)) (putC l[k]) (by
        have h1 := puts_len_c (l.take k)
        have h2 := put_len_c l[k]
        have h3 : (l.take k).length ≤ l.length := by rw [List.length_take]; omega
        rw [List.length_append]
        omega)
      rw [NX] at SM
      clear AT PL NX HF
      generalize Oct.enc (l.length : Int) ++ kC.puts (l.take k) = acc at *
      generalize hnx : Oct.enc (l.length : Int) ++ kC.puts (l.take (k + 1)) = nx at *
      replace hnx := Lib.hid hnx
      generalize putC l[k] = ps at *
      generalize hx : l[k] = x at *
      clear hx
      obtain ⟨xk, xs, xi, xg, ⟨xbs, xbi, xbg, xbm, xbx, xby, xbvx, xbvy, xbh, xbp, xbl⟩, xm⟩ := x
      go_wp2_with fail
      refine (CP.out _).mono ?_
      rintro e w3 ⟨rfl, hb⟩
      replace HB := Lib.hid (HB.out.trans (hb.mono HB.out.size))
      clear hb CP c0 c1 c2 c3 c4 c5 c6 c7 c8 c9 c10 c11 c12 c13 c14 c15
      go_wp2
      go_roundw
      case rel => exact ⟨k + 1, by omega, by rw [hnx.out], by go_num, HB⟩
      case measure => simp [intOf]; omega
    · obtain rfl : k = l.length := by omega
      have t1 : ¬ (l.length : Int) < (l.length : Int) := by omega
      clear AT
      generalize Oct.enc (l.length : Int) ++ kC.puts (l.take l.length) = acc at *
      generalize l.length = n at *
      go_wp2
      go_ret
      rw [PL.out]
      exact ⟨rfl, HB.out⟩
end Go.Proofs.YtdhlebmgeiiejaaGreat
