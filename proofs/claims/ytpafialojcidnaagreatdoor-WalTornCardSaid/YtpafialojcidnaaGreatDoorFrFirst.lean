/- frame.First where the place lies within the bytes. -/
import Derived.Test.YtpafialojcidnaaGreatDoorFrFrame
namespace Go.Proofs.YtpafialojcidnaaGreatDoor
open Go.RowKit
set_option linter.unusedVariables false

/-- a text in a row of the call's own -/
def One (a : List UInt8) : Og.Ph := Og.Fresh 0 #[.string ⟨a.toArray⟩] 9 1
theorem one_lasts (a : List UInt8) : Og.Lasts grows (One a) := Og.Fresh.lasts _ _ _ _
theorem one_noBool (a : List UInt8) : Og.NoBool (One a) := Og.Fresh.noBool _ _ _ _
theorem one_new (W : World) (a : List UInt8) : grows.r W (W.alloc (.cells #[.string ⟨a.toArray⟩] 9)) ∧ One a (.slice (some ⟨W.heap.size, 0, none⟩) 1 1) (W.alloc (.cells #[.string ⟨a.toArray⟩] 9)) :=
  Og.Fresh.new W 0 (Nat.zero_le _) _ _ _
theorem reads_one {W : World} {b : Nat} {cs : Array Value} {T : TypeId} (h : W.heap[b]? = some (.cells cs T (0, 0))) : Reads W W.heap.size (some ⟨b, 0, none⟩) cs.toList := by
  intro _
  refine ⟨b, 0, rfl, lt_of_row h, fun k v hv => ?_⟩
  rw [Lib.cell_of_heap h, Nat.zero_add]
  simpa using hv
theorem sum_one (a : List UInt8) {w : World} (p : Lat grows w) {v : Value} (ha : a.length ≤ 140737488351232) (hg : Good w) (h : One a v p.W) :
    Calls Tryz.prog 68 #[v] p.W fun e w' => e = .returned (.int .u32 (Fr.sum a : Nat)) ∧ grows.r p.W w' := by
  obtain ⟨b, rfl, _, hlt, hb⟩ := h
  have := sum_any (some ⟨b, 0, none⟩) 1 [a] p.W _ (by simp) (by intro s hs; simp at hs; subst hs; exact ha) (reads_one hb) (hg.below p.h (Nat.le_refl _))
  simp only [List.flatten_cons, List.flatten_nil, List.append_nil] at this
  exact Og.same this

theorem cut_from (s : List UInt8) (p : Nat) (r : List UInt8) (hr : r = s.drop p) (n : Nat) (hn : n = s.length) : (ByteArray.mk s.toArray).extract p n = ⟨r.toArray⟩ := by
  subst hr hn
  rw [cutb, List.take_of_length_le (by simp)]

set_option maxHeartbeats 1000000 in
set_option maxRecDepth 100000 in
theorem first_short (s r : List UInt8) (p : Nat) (w : World) (hs : s.length ≤ 140737488351232) (hp : p ≤ s.length) (hr : r = s.drop p) (h3 : r.length < 3) :
    Calls Tryz.prog 70 #[.string ⟨s.toArray⟩, .int .i64 p] w fun e w' => e = .returned (Reads1 s p) ∧ Below w.heap.size w w' := by
  have HR := Lib.hid (reads1_bad hp (by rw [← hr]; exact Fr.first_short h3) (by decide))
  have x0 := cut_from s p r hr _ rfl
  have h0' : decide ((p : Int) < 0) = false := by simp
  have h1 : decide ((s.length : Int) < p) = false := by simp; omega
  clear hr
  go_enter Tryz.func70, Tryz.ntmps70
  go_wp2
  go_ret3
  exact ⟨ret_tup HR.out.symm, Below.refl _ _⟩

theorem cut_to (r : List UInt8) (n : Nat) : (ByteArray.mk r.toArray).extract 0 n = ⟨(r.take n).toArray⟩ := by
  rw [cutb, List.drop_zero, Nat.sub_zero]
theorem cut_mid (r : List UInt8) (a b n : Nat) (h : b = a + n) : (ByteArray.mk r.toArray).extract a b = ⟨((r.drop a).take n).toArray⟩ := by
  rw [cutb, h, Nat.add_sub_cancel_left]
set_option maxHeartbeats 400000 in
theorem clone_any (t : List UInt8) (w : World) (h : t.length ≤ 140737488351232) :
    Calls Tryz.prog 34 #[.string ⟨t.toArray⟩] w fun e w' => e = .returned (.string ⟨t.toArray⟩) ∧ Below w.heap.size w w' := by
  have CL := Lib.hid (fun W => Tryz.stringslite_Clone ⟨t.toArray⟩ W (by show t.toArray.size ≤ _; rw [List.size_toArray]; omega))
  go_enter Tryz.func34, Tryz.ntmps34
  go_wp2_with fail
  refine (CL.out _).mono ?_
  rintro e w3 ⟨rfl, b3⟩
  go_wp2
  go_ret
  exact ⟨rfl, b3⟩
/-- what First reads of the length -/
theorem num_said (r : List UInt8) (h3 : 3 ≤ r.length) : ∃ d : List UInt8, d.length = 3 ∧ (ByteArray.mk r.toArray).extract 0 3 = ⟨d.toArray⟩ ∧ Fr.num r < 16777216 ∧
    ∀ W, Calls Tryz.prog 93 #[.string ⟨d.toArray⟩] W fun e w' => e = .returned (.int .u32 (Fr.num r : Nat)) ∧ W = w' := by
  have hl : (r.take 3).length = 3 := by rw [List.length_take]; omega
  refine ⟨r.take 3, hl, cut_to r 3, Fr.be_lt 3 _ hl, fun W => number_any _ W (by omega)⟩

set_option maxHeartbeats 1000000 in
set_option maxRecDepth 100000 in
theorem first_big (s r : List UInt8) (p : Nat) (w : World) (hs : s.length ≤ 140737488351232) (hp : p ≤ s.length) (hr : r = s.drop p) (h3 : 3 ≤ r.length) (hb : 65536 < Fr.num r) :
    Calls Tryz.prog 70 #[.string ⟨s.toArray⟩, .int .i64 p] w fun e w' => e = .returned (Reads1 s p) ∧ Below w.heap.size w w' := by
  have HR := Lib.hid (reads1_bad hp (by rw [← hr]; exact Fr.first_big h3 hb) (by decide))
  have x0 := cut_from s p r hr _ rfl
  have h0' : decide ((p : Int) < 0) = false := by simp
  have h1 : decide ((s.length : Int) < p) = false := by simp; omega
  obtain ⟨d, hd, x1, hn, N⟩ := num_said r h3
  have NH := Lib.hid N
  have h2 : decide ((r.length : Int) < 3) = false := by simp; omega
  have hb' : (65536 : Int) < (Fr.num r : Int) := by omega
  generalize Fr.num r = n at *
  clear hr N hb
  go_enter Tryz.func70, Tryz.ntmps70
  go_wp2_with fail
  refine (NH.out _).mono ?_
  rintro e w' ⟨rfl, rfl⟩
  go_wp2
  go_ret3
  exact ⟨ret_tup HR.out.symm, Below.refl _ _⟩

set_option maxHeartbeats 1000000 in
set_option maxRecDepth 100000 in
theorem first_end (s r : List UInt8) (p : Nat) (w : World) (hs : s.length ≤ 140737488351232) (hp : p ≤ s.length) (hr : r = s.drop p) (h3 : 3 ≤ r.length) (hb : Fr.num r ≤ 65536) (he : r.length < Fr.num r + 7) :
    Calls Tryz.prog 70 #[.string ⟨s.toArray⟩, .int .i64 p] w fun e w' => e = .returned (Reads1 s p) ∧ Below w.heap.size w w' := by
  have HR := Lib.hid (reads1_bad hp (by rw [← hr]; exact Fr.first_end h3 hb he) (by decide))
  have x0 := cut_from s p r hr _ rfl
  have h0' : decide ((p : Int) < 0) = false := by simp
  have h1 : decide ((s.length : Int) < p) = false := by simp; omega
  obtain ⟨d, hd, x1, hn, N⟩ := num_said r h3
  have NH := Lib.hid N
  have h2 : decide ((r.length : Int) < 3) = false := by simp; omega
  have hb' : decide ((65536 : Int) < (Fr.num r : Int)) = false := by simp; omega
  have he' : (r.length : Int) < 3 + (Fr.num r : Int) + 4 := by omega
  generalize Fr.num r = n at *
  clear hr N he
  go_enter Tryz.func70, Tryz.ntmps70
  go_wp2_with fail
  refine (NH.out _).mono ?_
  rintro e w' ⟨rfl, rfl⟩
  go_wp2
  go_ret3
  exact ⟨ret_tup HR.out.symm, Below.refl _ _⟩

set_option maxHeartbeats 2000000 in
set_option maxRecDepth 100000 in
theorem first_sum (s r : List UInt8) (p : Nat) (w : World) (hs : s.length ≤ 140737488351232) (hp : p ≤ s.length) (hr : r = s.drop p) (hb : Fr.num r ≤ 65536) (he : Fr.num r + 7 ≤ r.length)
    (hq : Fr.sum (r.take (Fr.num r + 3)) ≠ Fr.be ((r.drop (Fr.num r + 3)).take 4)) (hg : Good w) :
    Calls Tryz.prog 70 #[.string ⟨s.toArray⟩, .int .i64 p] w fun e w' => e = .returned (Reads1 s p) ∧ Below w.heap.size w w' := by
  have HR := Lib.hid (reads1_bad hp (by rw [← hr]; exact Fr.first_sum hb he hq) (by decide))
  have x0 := cut_from s p r hr _ rfl
  have h0' : decide ((p : Int) < 0) = false := by simp
  have h1 : decide ((s.length : Int) < p) = false := by simp; omega
  obtain ⟨d, hd, x1, hn, N⟩ := num_said r (by omega)
  have NH := Lib.hid N
  have h2 : decide ((r.length : Int) < 3) = false := by simp; omega
  have hb' : decide ((65536 : Int) < (Fr.num r : Int)) = false := by simp; omega
  have he' : decide ((r.length : Int) < 3 + (Fr.num r : Int) + 4) = false := by simp; omega
  generalize Fr.num r = n at *
  obtain ⟨u, hu⟩ : ∃ u, u = r.take (n + 3) := ⟨_, rfl⟩
  obtain ⟨v, hv⟩ : ∃ v, v = (r.drop (n + 3)).take 4 := ⟨_, rfl⟩
  have x2 : (ByteArray.mk r.toArray).extract 0 (3 + n) = ⟨u.toArray⟩ := by rw [cut_to, hu, Nat.add_comm]
  have x3 : (ByteArray.mk r.toArray).extract (3 + n) (3 + n + 4) = ⟨v.toArray⟩ := by rw [cut_mid r _ _ 4 rfl, hv, Nat.add_comm]
  have hul : u.length ≤ 140737488351232 := by rw [hu, List.length_take]; omega
  have hvl : v.length ≤ 4 := by rw [hv, List.length_take]; omega
  rw [← hu, ← hv] at hq
  have SU := Lib.hid (fun (q : Lat grows w) y (hy : One u y q.W) => sum_one u q hul hg hy)
  have NV := Lib.hid (fun W => number_any v W hvl)
  have g0 : 0 ≤ 3 + (n : Int) := by omega
  have g1 : 3 + (n : Int) ≤ r.length := by omega
  have g2 : 3 + (n : Int) + 4 ≤ r.length := by omega
  have g3 : (3 + (n : Int)).toNat = 3 + n := by omega
  have g4 : (3 + (n : Int) + 4).toNat = 3 + n + 4 := by omega
  have g5 : 3 + (n : Int) ≤ 3 + (n : Int) + 4 := by omega
  have g6 : 0 ≤ 3 + (n : Int) + 4 := by omega
  have g7 : IntKind.i64.wrap (3 + (n : Int) + 4) = 3 + n + 4 := IntWalk.i64_in _ ⟨by omega, by omega⟩
  have hq' : ((Fr.sum u : Int) != (Fr.be v : Int)) = true := by simp; omega
  generalize Fr.sum u = x at *
  generalize Fr.be v = y at *
  clear hr N hu hv hq hul hvl
  go_enter Tryz.func70, Tryz.ntmps70
  go_wp2_with fail
  refine (NH.out _).mono ?_
  rintro e w' ⟨rfl, rfl⟩
  go_wp2_with fail
  refine Og.grow 12 (by kernel_rfl) (by kernel_rfl) fun hc hf => ?_
  simp only [List.take_succ_cons, List.take_zero, List.drop_succ_cons, List.drop_zero]
  iterate 3 (refine Og.det [] rfl (fun K hK => ?_); go_simp; refine hK _ _ ?_; clear hK K)
  refine Og.such 40 (One u) [] rfl (one_lasts _) (one_noBool _) (fun K hK => ?_)
  go_simp
  refine ⟨fun q => one_new q.W u, hK _ _ ?_⟩
  clear hK K
  refine Og.det [(40, One u)] rfl (fun K hK => ?_)
  go_simp
  refine ⟨_, fun q y hy => SU.out q y hy, hK _ _ ?_⟩
  clear hK K
  iterate 5 (refine Og.det [] rfl (fun K hK => ?_); go_simp; refine hK _ _ ?_; clear hK K)
  refine Og.det [] rfl (fun K hK => ?_)
  go_simp
  refine ⟨_, fun q => Og.same (NV.out _), hK _ _ ?_⟩
  clear hK K
  refine Og.det [] rfl (fun K hK => ?_); go_simp; refine hK _ _ ?_; clear hK K
  refine Og.fin fun W hW => ?_
  simp only [Og.opened_cons, Og.opened_nil]
  intro v1 _
  go_wp2
  go_ret3
  exact ⟨ret_tup HR.out.symm, hW⟩

set_option maxHeartbeats 2000000 in
set_option maxRecDepth 100000 in
theorem first_ok (s r : List UInt8) (p : Nat) (w : World) (hs : s.length ≤ 140737488351232) (hp : p ≤ s.length) (hr : r = s.drop p) (hb : Fr.num r ≤ 65536) (he : Fr.num r + 7 ≤ r.length)
    (hq : Fr.sum (r.take (Fr.num r + 3)) = Fr.be ((r.drop (Fr.num r + 3)).take 4)) (hg : Good w) :
    Calls Tryz.prog 70 #[.string ⟨s.toArray⟩, .int .i64 p] w fun e w' => e = .returned (Reads1 s p) ∧ Below w.heap.size w w' := by
  have HR := Lib.hid (reads1_ok hp (by rw [← hr]; exact Fr.first_ok hb he hq))
  have htl : ((r.drop 3).take (Fr.num r)).length = Fr.num r := by rw [List.length_take, List.length_drop]; omega
  have x4 : (ByteArray.mk r.toArray).extract 3 (3 + Fr.num r) = ⟨((r.drop 3).take (Fr.num r)).toArray⟩ := cut_mid r _ _ _ rfl
  rw [htl, show (p : Int) + (Fr.num r : Int) + 7 = p + (3 + (Fr.num r : Int)) + 4 by omega] at HR
  generalize (r.drop 3).take (Fr.num r) = t at *
  have x0 := cut_from s p r hr _ rfl
  have h0' : decide ((p : Int) < 0) = false := by simp
  have h1 : decide ((s.length : Int) < p) = false := by simp; omega
  obtain ⟨d, hd, x1, hn, N⟩ := num_said r (by omega)
  have NH := Lib.hid N
  have h2 : decide ((r.length : Int) < 3) = false := by simp; omega
  have hb' : decide ((65536 : Int) < (Fr.num r : Int)) = false := by simp; omega
  have he' : decide ((r.length : Int) < 3 + (Fr.num r : Int) + 4) = false := by simp; omega
  generalize Fr.num r = n at *
  obtain ⟨u, hu⟩ : ∃ u, u = r.take (n + 3) := ⟨_, rfl⟩
  obtain ⟨v, hv⟩ : ∃ v, v = (r.drop (n + 3)).take 4 := ⟨_, rfl⟩
  have x2 : (ByteArray.mk r.toArray).extract 0 (3 + n) = ⟨u.toArray⟩ := by rw [cut_to, hu, Nat.add_comm]
  have x3 : (ByteArray.mk r.toArray).extract (3 + n) (3 + n + 4) = ⟨v.toArray⟩ := by rw [cut_mid r _ _ 4 rfl, hv, Nat.add_comm]
  have hul : u.length ≤ 140737488351232 := by rw [hu, List.length_take]; omega
  have hvl : v.length ≤ 4 := by rw [hv, List.length_take]; omega
  rw [← hu, ← hv] at hq
  have SU := Lib.hid (fun (q : Lat grows w) y (hy : One u y q.W) => sum_one u q hul hg hy)
  have NV := Lib.hid (fun W => number_any v W hvl)
  have g0 : 0 ≤ 3 + (n : Int) := by omega
  have g1 : 3 + (n : Int) ≤ r.length := by omega
  have g2 : 3 + (n : Int) + 4 ≤ r.length := by omega
  have g3 : (3 + (n : Int)).toNat = 3 + n := by omega
  have g4 : (3 + (n : Int) + 4).toNat = 3 + n + 4 := by omega
  have g5 : 3 + (n : Int) ≤ 3 + (n : Int) + 4 := by omega
  have g6 : 0 ≤ 3 + (n : Int) + 4 := by omega
  have g7 : IntKind.i64.wrap (3 + (n : Int) + 4) = 3 + n + 4 := IntWalk.i64_in _ ⟨by omega, by omega⟩
  have hq' : ((Fr.sum u : Int) != (Fr.be v : Int)) = false := by simp; omega
  have CL := Lib.hid (fun W => clone_any t W (by omega))
  generalize Fr.sum u = x at *
  generalize Fr.be v = y at *
  clear hr N hu hv hq hul hvl
  go_enter Tryz.func70, Tryz.ntmps70
  go_wp2_with fail
  refine (NH.out _).mono ?_
  rintro e w' ⟨rfl, rfl⟩
  go_wp2_with fail
  refine Og.grow 12 (by kernel_rfl) (by kernel_rfl) fun hc hf => ?_
  simp only [List.take_succ_cons, List.take_zero, List.drop_succ_cons, List.drop_zero]
  iterate 3 (refine Og.det [] rfl (fun K hK => ?_); go_simp; refine hK _ _ ?_; clear hK K)
  refine Og.such 40 (One u) [] rfl (one_lasts _) (one_noBool _) (fun K hK => ?_)
  go_simp
  refine ⟨fun q => one_new q.W u, hK _ _ ?_⟩
  clear hK K
  refine Og.det [(40, One u)] rfl (fun K hK => ?_)
  go_simp
  refine ⟨_, fun q y hy => SU.out q y hy, hK _ _ ?_⟩
  clear hK K
  iterate 5 (refine Og.det [] rfl (fun K hK => ?_); go_simp; refine hK _ _ ?_; clear hK K)
  refine Og.det [] rfl (fun K hK => ?_)
  go_simp
  refine ⟨_, fun q => Og.same (NV.out _), hK _ _ ?_⟩
  clear hK K
  refine Og.det [] rfl (fun K hK => ?_); go_simp; refine hK _ _ ?_; clear hK K
  refine Og.fin fun W hW => ?_
  simp only [Og.opened_cons, Og.opened_nil]
  intro v1 _
  go_wp2_with fail
  refine (CL.out _).mono ?_
  rintro e w3 ⟨rfl, b3⟩
  go_wp2
  go_ret3
  exact ⟨ret_tup HR.out.symm, hW.trans (b3.mono hW.size)⟩

theorem first_any (s : List UInt8) (a : Int) (w : World) (hs : s.length ≤ 140737488351232) (hg : Good w) :
    Calls Tryz.prog 70 #[.string ⟨s.toArray⟩, .int .i64 a] w fun e w' => e = .returned (Reads1 s a) ∧ Below w.heap.size w w' := by
  by_cases h : 0 ≤ a ∧ a ≤ s.length
  · obtain ⟨p, rfl⟩ := Int.eq_ofNat_of_zero_le h.1
    have hp : p ≤ s.length := by omega
    rcases Fr.first_cases (s.drop p) with ⟨h1, _⟩ | ⟨h1, h2, _⟩ | ⟨h1, h2, h3, _⟩ | ⟨h1, h2, h3, _⟩ | ⟨h1, h2, h3, _⟩
    · exact first_short s _ p w hs hp rfl h1
    · exact first_big s _ p w hs hp rfl h1 h2
    · exact first_end s _ p w hs hp rfl h1 h2 h3
    · exact first_sum s _ p w hs hp rfl h1 h2 h3 hg
    · exact first_ok s _ p w hs hp rfl h1 h2 h3 hg
  · exact first_out s a w hs h
end Go.Proofs.YtpafialojcidnaaGreatDoor
