/- The law WalRefuses, walked. -/
import Derived.Test.YtpafialojcidnaaGreatDoorWlTop
import Derived.Deep.OwnRows
namespace Go.Proofs.YtpafialojcidnaaGreatDoor
open Go.RowKit Go.Maps Dk
open Wl (Lo Lg Tn)
set_option linter.unusedVariables false

theorem wal_zeros_made (k : Nat) (hk : k ≤ 4194304) (W : World) : (Instr.makeSlice 48 (.int .i64 (k : Int)) (.int .i64 (k : Int))).run Tryz.prog W = .ok (.slice (some ⟨W.heap.size, 0, none⟩) k k) (W.alloc (.cells (madeCells #[.int .u8 0] k) 5)) :=
  run_make_row' 48 5 (.int .u8 0) 1 Tryz.underlying48 info8 rfl .i64 .i64 k (by omega) (by omega) W
theorem wal_zeros_at (k j : Nat) (hj : j < k) : (madeCells #[.int .u8 0] k)[j]? = some (.int .u8 0) := by
  unfold madeCells
  rw [Array.getElem?_map, Array.getElem?_range, if_pos hj]
  simp [Nat.mod_one]
theorem wal_zeros_string (k : Nat) (W : World) (b : Nat) (hb : W.heap[b]? = some (.cells (madeCells #[.int .u8 0] k) 5 (0, 0))) : (convert 48 9 (.slice (some ⟨b, 0, none⟩) k k)).run Tryz.prog W = .ok (.string ⟨(List.replicate k (0 : UInt8)).toArray⟩) W := by
  have h := run_convert_bytes_back (P := Tryz.prog) W 48 9 5 ⟨b, 0, none⟩ k (List.replicate k (0 : UInt8)) Tryz.underlying48 Tryz.underlying5 Tryz.underlying9 (fun j hj => by
    rw [List.length_replicate] at hj
    rw [Go.WideShapes.add_plain]
    have := cellAt hb (0 + j)
    rw [Nat.zero_add, wal_zeros_at k j hj] at this
    rw [Nat.zero_add, this]
    simp)
  rw [List.length_replicate] at h
  exact h
/-- a text of so many zeros, as it is made -/
theorem zeros_are (k : Nat) (hk : k ≤ 4194304) : ∃ (zs : Str) (o : Obj), zs.length = k ∧ (∀ W : World, (Instr.makeSlice 48 (.int .i64 (k : Int)) (.int .i64 (k : Int))).run Tryz.prog W = .ok (.slice (some ⟨W.heap.size, 0, none⟩) k k) (W.alloc o)) ∧
    ∀ W : World, (convert 48 9 (.slice (some ⟨W.heap.size, 0, none⟩) k k)).run Tryz.prog (W.alloc o) = .ok (.string ⟨zs.toArray⟩) (W.alloc o) :=
  ⟨List.replicate k 0, _, List.length_replicate, wal_zeros_made k hk, fun W => wal_zeros_string k _ _ (heap_alloc_new W _)⟩
/-- the number that the length is made of -/
theorem more_is (u : Int) : ∃ (x : Int) (c s : Nat), u.tmod 1000 = x ∧ IntKind.i64.wrap x = x ∧ IntKind.i64.wrap (x + 1000) = x + 1000 ∧ (x + 1000).tmod 1000 = (c : Int) ∧ IntKind.i64.wrap (c : Int) = (c : Int) ∧ 4096 + (c : Int) = (s : Int) ∧ IntKind.i64.wrap (s : Int) = (s : Int) ∧ 4096 ≤ s ∧ s ≤ 6000 := by
  have a1 := Int.tmod_lt_of_pos u (show (0 : Int) < 1000 by decide)
  have a2 := Int.lt_tmod_of_pos u (show (0 : Int) < 1000 by decide)
  have b1 := Int.tmod_eq_emod_of_nonneg (a := u.tmod 1000 + 1000) (b := 1000) (by omega)
  have b2 := Int.emod_nonneg (u.tmod 1000 + 1000) (show (1000 : Int) ≠ 0 by decide)
  have b3 := Int.emod_lt_of_pos (u.tmod 1000 + 1000) (show (0 : Int) < 1000 by decide)
  exact ⟨_, ((u.tmod 1000 + 1000).tmod 1000).toNat, 4096 + ((u.tmod 1000 + 1000).tmod 1000).toNat, rfl, IntWalk.i64_in _ ⟨by omega, by omega⟩, IntWalk.i64_in _ ⟨by omega, by omega⟩, by omega, IntWalk.i64_in _ ⟨by omega, by omega⟩, by omega, IntWalk.i64_in _ ⟨by omega, by omega⟩, by omega, by omega⟩
theorem lg_grow {K : St} {nm : Str} {I : List (List Str)} {R : List Str} {r : Str} {n : Nat} (L : Lg K nm 0 I R) (hb : 4096 ≤ r.length) (hr : r.length ≤ 65536) (h1 : n ≤ I.length + 1) (h2 : 0 < n → 4096 ≤ Fr.place R) (ht : 0 + Wl.tot I + R.length < 99999999) :
    (∃ K' I' R', Wl.appendL K ⟨nm, 0 + Wl.tot I, 0 + Wl.tot I + R.length⟩ [r] = (K', ⟨nm, 0 + Wl.tot I', 0 + Wl.tot I' + R'.length⟩, 0) ∧ Lg K' nm 0 I' R' ∧ Wl.tot I' + R'.length = Wl.tot I + R.length + 1 ∧ n + 1 ≤ I'.length + 1 ∧ 4096 ≤ Fr.place R') ∨
    (I.length = 63 ∧ ∃ K', Wl.appendL K ⟨nm, 0 + Wl.tot I, 0 + Wl.tot I + R.length⟩ [r] = (K', ⟨nm, 0 + Wl.tot I, 0 + Wl.tot I + R.length⟩, 8) ∧ Lg K' nm 0 I R ∧ ∃ K2, Wl.appendL K' ⟨nm, 0 + Wl.tot I, 0 + Wl.tot I + R.length⟩ [r] = (K2, ⟨nm, 0 + Wl.tot I, 0 + Wl.tot I + R.length⟩, 8) ∧ Lg K2 nm 0 I R) := by
  have hf := L.few
  by_cases hc : I.length < 63 ∨ Fr.place R < 4096
  · left
    obtain ⟨K', I', R', e, L', _, _, _, t, h⟩ := L.lay hr ht hc
    refine ⟨K', I', R', by rw [Wl.appendL_one hr]; exact e, L', t, ?_, ?_⟩
    · rcases h with ⟨hp, rfl, rfl⟩ | ⟨hp, rfl, rfl⟩
      · have : ¬ 0 < n := fun h => by have := h2 h; omega
        omega
      · rw [List.length_append]; simp; omega
    · rcases h with ⟨hp, rfl, rfl⟩ | ⟨hp, rfl, rfl⟩
      · rw [Fr.place_snoc]; omega
      · rw [Fr.place_cons]; omega
  · right
    have h63 : I.length = 63 := by omega
    have hp : 4096 ≤ Fr.place R := by omega
    obtain ⟨K', e, L'⟩ := L.layFull hr (by omega) h63 hp
    obtain ⟨K2, e2, L2⟩ := L'.layFull hr (by omega) h63 hp
    exact ⟨h63, K', by rw [Wl.appendL_one hr]; exact e, L', K2, by rw [Wl.appendL_one hr]; exact e2, L2⟩

set_option maxHeartbeats 32000000 in
set_option maxRecDepth 100000 in
theorem law_refuses (w : World) (ht : Tabs w.heap.size w) (A : Option Addr) (cap : Nat) (l : List Str) (hlc : l.length ≤ cap) (hcap : cap ≤ 140737488351232) (hl : ∀ s ∈ l, s.length ≤ 140737488351232) (hr : Reads w w.heap.size A (strings l)) (u : Int) (hu : -9223372036854775808 ≤ u ∧ u ≤ 9223372036854775807) :
    Calls Tryz.prog 7 #[.slice A l.length cap, .int .i64 u] w fun e w' => e = .returned (.bool true) ∧ Below w.heap.size w w' := by
  have F := Lib.hid (few_any w A cap l (by omega) hl (Nat.le_refl _) hr)
  have HT := Lib.hid ht
  clear ht hr hl hlc
  go_enter Tryz.func7, Tryz.ntmps7
  go_wp2_with fail
  refine F.out.mono ?_
  rintro e w1 ⟨v, rfl, D, hD, hO, b1⟩
  obtain ⟨A1, cap1, rfl⟩ := owns_len hO
  have T1 := HT.out.below b1 (Nat.le_refl _)
  have M := Lib.hid (lmade_any w1 T1 b1.size)
  have HO := Lib.hid hO
  have HD := Lib.hid hD
  have B1 := Lib.hid b1
  have hn := hD.1
  clear F T1 hO hD b1
  go_wp2_with fail
  refine M.out.mono ?_
  rintro e w2 ⟨b, K0, rfl, x2, l2, L0⟩
  have hsm : ∀ r ∈ D, r.length ≤ 65536 := fun r hm => by have := HD.out.2 r hm; omega
  have RD : Hid (∀ (W' : World) (K' : St), Wa w1 w1.heap.size w1.heap.size K' W' → Reads W' W'.heap.size A1 (strings D)) := Lib.hid fun W' K' h => owns_reads (owns_kp HO.out (p := isLog) (fun _ => rfl) h.gone.kp)
  have A2 := Lib.hid (lg_append (n0 := 0) (I := []) (R := []) x2 l2 L0 A1 cap1 D.length D rfl hsm (by simp [Wl.tot]; omega) (by simp; omega) (fun W' K' h => RD.out W' K' (x2.trans h)))
  clear M L0 l2 x2
  go_wp2_with fail
  refine A2.out.mono ?_
  rintro e w3 ⟨rfl, K1, I1, R1, h3⟩
  obtain ⟨x3, l3, L3, f3, n3, _⟩ := h3.out
  have f3 : (I1 ++ [R1]).flatten = D := f3
  have t3 := Wl.tot_flat f3
  have hs3 := L3.few
  -- a record that is too long
  obtain ⟨zs, o, hz, Z1, Z2⟩ := zeros_are 65537 (by decide)
  have ZM : ∀ W : World, (Instr.makeSlice 48 (.int .i64 65537) (.int .i64 65537)).run Tryz.prog W = .ok (.slice (some ⟨W.heap.size, 0, none⟩) 65537 65537) (W.alloc o) := Z1
  have ZC := Z2 w3
  have hrow := at1 (w3.alloc o) (.cells #[.string ⟨#[120]⟩, .string ⟨zs.toArray⟩, .string ⟨#[121]⟩] 9)
  have bel := bel2 w3 o (.cells #[.string ⟨#[120]⟩, .string ⟨zs.toArray⟩, .string ⟨#[121]⟩] 9)
  have h3s : ∀ r ∈ ([[120], zs, [121]] : List Str), r.length ≤ 140737488351232 := fun r hr => by
    simp only [List.mem_cons, List.not_mem_nil, or_false] at hr
    rcases hr with rfl | rfl | rfl
    · decide
    · omega
    · decide
  have A3 := lappend_any (x3.below bel) (l3.below bel) L3.nm16 (by have := L3.top; dsimp only; omega) (by have := L3.top; dsimp only; omega) (some ⟨(w3.alloc o).heap.size, 0, none⟩) 3 [[120], zs, [121]] (by simp) h3s (row_reads (l := [[120], zs, [121]]) hrow)
  rw [Wl.appendL_big (r := zs) (by simp) (by omega)] at A3
  rw [size1] at A3
  have HA3 := Lib.hid A3
  have LG3 := Lib.hid L3
  have F3 := Lib.hid f3
  clear A2 h3 x3 l3 L3 f3 n3 hrow bel A3 Z1 Z2 hs3
  go_wp2_with fail
  refine HA3.out.mono ?_
  rintro e w4 ⟨rfl, x4, l4⟩
  have al := lg_all x4 l4 rfl LG3.out
  rw [F3.out] at al
  have AL := Lib.hid al
  have X4 := Lib.hid x4
  have HL4 := Lib.hid l4
  clear HA3 al x4 l4 h3s ZM ZC
  go_wp2_with fail
  refine AL.out.mono ?_
  rintro e w5 ⟨v5, rfl, hO5, b5⟩
  obtain ⟨A5, c5, rfl⟩ := owns_len hO5
  have X5 := Lib.hid (X4.out.below b5)
  have HL5 := Lib.hid (HL4.out.below b5)
  have SM := Lib.hid (fun c => same_any A5 c5 A1 c D w5 _ _ (by omega) (owns_reads hO5) (RD.out w5 _ X5.out))
  clear AL X4 HL4 hO5 b5
  go_wp2_with fail
  refine (SM.out _).mono ?_
  rintro e w6 ⟨rfl, b6⟩
  have X6 := Lib.hid (X5.out.below b6)
  have HL6 := Lib.hid (HL5.out.below b6)
  have nx := next_any w6 HL6.out
  try dsimp only at nx
  rw [show 0 + Wl.tot I1 + R1.length = D.length by omega] at nx
  have NX := Lib.hid nx
  clear SM X5 HL5 b6 nx
  go_wp2_with fail
  refine NX.out.mono ?_
  rintro e w6' ⟨rfl, rfl⟩
  clear NX
  -- a record that fills a segment
  obtain ⟨x, c, s, u1, u2, u3, u4, u5, u6, u7, hs1, hs2⟩ := more_is u
  obtain ⟨big, o2, hz2, Z1, Z2⟩ := zeros_are s (by omega)
  have ZC := Z2 w6
  have X7 := Lib.hid (X6.out.below (bel1 w6 o2))
  have HL7 := Lib.hid (HL6.out.below (bel1 w6 o2))
  clear Z2 hz X6 HL6
  go_wp2
  generalize hw7 : w6.alloc o2 = w7 at *
  have GR := Lib.hid (fun (n : Nat) (K : St) (I : List (List Str)) (R : List Str) (L : Lg K [119] 0 I R) (h1 : n ≤ I.length + 1) (h2 : 0 < n → 4096 ≤ Fr.place R) (ht : 0 + Wl.tot I + R.length < 99999999) => lg_grow (r := big) L (by omega) (by omega) h1 h2 ht)
  have AP := Lib.hid (fun (W : World) (K K' : St) (g g' : Lo) (n : Nat) (h : Wa w1 w1.heap.size w1.heap.size K W) (hl : LogAt W w1.heap.size b w1.heap.size g) (hnm : g.nm.length ≤ 16) (h1 : g.last ≤ 99999999) (h2 : g.next ≤ 1000000000) (e : Wl.appendL K g [big] = (K', g', n)) => by
    have a := lappend_any (h.below (bel1 W (.cells #[.string ⟨big.toArray⟩] 9))) (hl.below (bel1 W (.cells #[.string ⟨big.toArray⟩] 9))) hnm h1 h2 (some ⟨W.heap.size, 0, none⟩) 1 [big] (by simp) (fun r hr => by rw [List.mem_singleton] at hr; subst hr; omega) (row_reads (l := [big]) (at1 W (.cells #[.string ⟨big.toArray⟩] 9)))
    rw [e] at a
    exact a)
  clear hz2 ZC
  go_loopw [10] (fun i wr => ∃ (n : Nat) (K : St) (I : List (List Str)) (R : List Str), i = .int .i64 n ∧ n ≤ I.length + 1 ∧ I.length ≤ 63 ∧ Wl.tot I + R.length = D.length + n ∧ Hid (0 < n → 4096 ≤ Fr.place R) ∧ Hid (Lg K [119] 0 I R) ∧ Hid (Wa w1 w1.heap.size w1.heap.size K wr) ∧ Hid (LogAt wr w1.heap.size b w1.heap.size ⟨[119], 0 + Wl.tot I, 0 + Wl.tot I + R.length⟩)) (fun i _ => 128 - (intOf i).toNat)
  case atStart => exact ⟨0, K1, I1, R1, rfl, by omega, by have := LG3.out.few; omega, by omega, Lib.hid (fun h => absurd h (by decide)), LG3, X7, HL7⟩
  case round =>
    obtain ⟨n, K, I, R, rfl, hnI, hI63, htot, hpl, hL, hX, hA⟩ := hrel
    have hn128 : (n : Int) < 128 := by omega
    have hwr : IntKind.i64.wrap ((n : Int) + 1) = ((n + 1 : Nat) : Int) := by rw [IntWalk.i64_in _ ⟨by omega, by omega⟩]; omega
    clear X7 HL7
    rcases GR.out n K I R hL.out hnI hpl.out (by omega) with ⟨K', I', R', e, L', t', n', p'⟩ | ⟨h63, K', e, L', K2, e2, L2⟩
    · have A7 := Lib.hid (AP.out wr K K' _ _ 0 hX.out hA.out (by dsimp only; decide) (by dsimp only; omega) (by dsimp only; omega) e)
      have HL' := Lib.hid L'
      clear e L' AP GR hL hX hA
      generalize hk1 : n + 1 = k1 at *
      go_wp2_with fail
      refine A7.out.mono ?_
      rintro e w8 ⟨rfl, x8, l8⟩
      have X8 := Lib.hid x8
      have HL8 := Lib.hid l8
      clear A7 x8 l8
      go_wp2
      go_roundw
      case rel => exact ⟨k1, K', I', R', by go_num, by omega, by have := HL'.out.few; omega, by omega, Lib.hid (fun _ => p'), HL', X8, HL8⟩
      case measure => simp [intOf]; omega
    · have A7 := Lib.hid (AP.out wr K K' _ _ 8 hX.out hA.out (by dsimp only; decide) (by dsimp only; omega) (by dsimp only; omega) e)
      have A8 := Lib.hid (fun (W : World) (x : Wa w1 w1.heap.size w1.heap.size K' W) (l : LogAt W w1.heap.size b w1.heap.size ⟨[119], 0 + Wl.tot I, 0 + Wl.tot I + R.length⟩) => AP.out W K' K2 _ _ 8 x l (by dsimp only; decide) (by dsimp only; omega) (by dsimp only; omega) e2)
      have HL2 := Lib.hid L2
      clear e e2 L' L2 AP GR hL hX hA
      go_wp2_with fail
      refine A7.out.mono ?_
      rintro e w8 ⟨rfl, x8, l8⟩
      have A9 := Lib.hid (A8.out w8 x8 l8)
      clear A7 A8 x8 l8
      go_wp2_with fail
      refine A9.out.mono ?_
      rintro e w9 ⟨rfl, x9, l9⟩
      have fl := files_any w9 x9.dsk
      have hKL : (K2.L.map (·.name)).length = 64 := by rw [List.length_map, HL2.out.vw.len, Wl.vv_len, List.length_append]; simp; omega
      have FL := Lib.hid fl
      have X9 := Lib.hid x9
      have HL9 := Lib.hid l9
      clear A9 fl x9 l9
      go_wp2_with fail
      refine FL.out.mono ?_
      rintro e w10 ⟨⟨v, rfl, hv⟩, b10⟩
      obtain ⟨Af, cf, rfl⟩ := owns_len hv
      rw [hKL]
      have X10 := Lib.hid (X9.out.below b10)
      have HL10 := Lib.hid (HL9.out.below b10)
      have nx := next_any w10 HL10.out
      try dsimp only at nx
      have sumN : (D.length : Int) + (n : Int) = ((D.length + n : Nat) : Int) := by omega
      have sumW : IntKind.i64.wrap ((D.length + n : Nat) : Int) = ((D.length + n : Nat) : Int) := IntWalk.i64_in _ ⟨by omega, by omega⟩
      have al := lg_all X10.out HL10.out rfl HL2.out
      have alen : (I ++ [R]).flatten.length = D.length + n := by rw [← Wl.tot_flat rfl]; omega
      rw [show 0 + Wl.tot I + R.length = D.length + n by omega] at nx
      have NX := Lib.hid nx
      have AL := Lib.hid al
      clear FL X9 HL9 hv b10 nx al hKL
      generalize D.length + n = tn at *
      go_wp2_with fail
      refine NX.out.mono ?_
      rintro e w10' ⟨rfl, rfl⟩
      clear NX
      go_wp2_with fail
      refine AL.out.mono ?_
      rintro e w11 ⟨v, rfl, hv, b11⟩
      obtain ⟨Aa, ca, rfl⟩ := owns_len hv
      rw [alen]
      have X11 := Lib.hid (X10.out.below b11)
      have AW := Lib.hid (awake_any w11 X11.out.tabs X11.out.size)
      clear AL X10 hv b11
      go_wp2_with fail
      refine AW.out.mono ?_
      rintro e w13 ⟨rfl, b13⟩
      go_wp2
      go_ret
      exact ⟨rfl, B1.out.trans ((X11.out.below b13).bel.mono B1.out.size)⟩
end Go.Proofs.YtpafialojcidnaaGreatDoor
