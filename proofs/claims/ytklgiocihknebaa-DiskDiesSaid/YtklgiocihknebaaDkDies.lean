/- DiskDies. -/
import Derived.Test.YtklgiocihknebaaDkAsks
import Derived.Test.YtklgiocihknebaaDkDiesP
import Derived.Test.YtklgiocihknebaaDkLaw4
namespace Go.Proofs.Ytklgiocihknebaa
open Go.RowKit Go.Maps Dk
set_option linter.unusedVariables false
set_option maxHeartbeats 8000000 in
set_option maxRecDepth 100000 in
theorem law_dies (w : World) (A : Option Addr) (cap : Nat) (l : List DD) (hl : l.length ≤ cap) (hc : cap ≤ 140737488351232) (hf : ∀ x ∈ l, x.Fine) (R : ReadsK w w.heap.size A 5 (l.map DD.row)) (n : Int) (hn : -9223372036854775808 ≤ n ∧ n ≤ 9223372036854775807) (p : Int) (hp : -9223372036854775808 ≤ p ∧ p ≤ 9223372036854775807) :
    Calls Try.prog 10 #[.slice A l.length cap, .int .i64 n, .int .i64 p] w fun e w' => e = .returned (.bool true) ∧ Below w.heap.size w w' := by
  have FEW := Lib.hid (few_any w A cap l hl hc hf (Nat.le_refl _) R)
  clear R hf
  obtain ⟨M, hM⟩ : ∃ M : Nat, n.toNat = M := ⟨_, rfl⟩
  have hmax : max (0 : Int) n = (M : Int) := by omega
  have hM63 : (M : Int) ≤ 9223372036854775807 := by omega
  have CUT : Hid (Dk.cut Dk.new n = ⟨[], some M, false⟩) := Lib.hid (by unfold Dk.cut Dk.new; simp [hM])
  clear hM
  go_enter Try.func10, Try.ntmps10
  go_wp2_with (first
    | (go_at_call 13; refine FEW.out.mono ?_; rintro e w1 ⟨⟨v, rfl, D, hFw, hO⟩, hb⟩; obtain ⟨A', c', rfl⟩ := ownd_form hO; have FW := Lib.hid hFw; have OD := Lib.hid hO; have B1 := Lib.hid hb; have hD60 := hFw.1; clear hFw hO hb)
    | (go_at_call 12; refine (new_at w1 w1 rfl).mono ?_; rintro e w2 ⟨d, rfl, H0⟩)
    | (go_at_call 30; refine (at_cut H0 CUT.out hn).mono ?_; rintro e w3 ⟨rfl, H1⟩; clear H0))
  clear FEW CUT
  go_loopw [8, 10] (fun t i wr => ∃ (k T : Nat) (K : St), k ≤ D.length ∧ i = .int .i64 k ∧ t = .int .i64 T ∧ T ≤ M ∧ Hid (K.room = some (M - T) ∧ Slim k (k * 5000) K) ∧ At w1 w1.heap.size d K wr) (fun _ i _ => D.length - (intOf i).toNat)
  case atStart => exact ⟨0, 0, _, Nat.zero_le _, rfl, rfl, Nat.zero_le _, Lib.hid ⟨rfl, Nat.le_refl _, fun f hf => by cases hf⟩, H1⟩
  case round =>
    obtain ⟨k, T, K, hk, rfl, rfl, hT, HK, h⟩ := hrel
    clear H1
    by_cases hlt : k < D.length
    · have hlt' : (k : Int) < (D.length : Int) := by omega
      obtain ⟨g, rfl, c0, c1, c2, c3, c4⟩ := ownd_at (ownd_kp OD.out (p := isRef) (fun _ => rfl) h.out.2.2.kp) hlt
      have hx := FW.out.2 _ (List.getElem_mem hlt)
      have HX := Lib.hid hx.1
      have hs5 := hx.2
      clear hx
      generalize D[k] = x at *
      have hal := bel1 wr (.cells #[.int .i64 x.kind, .int .i64 x.n, .string ⟨x.name.toArray⟩, .string ⟨x.to.toArray⟩, .string ⟨x.s.toArray⟩] 32)
      have hbx := at1 wr (.cells #[.int .i64 x.kind, .int .i64 x.n, .string ⟨x.name.toArray⟩, .string ⟨x.to.toArray⟩, .string ⟨x.s.toArray⟩] 32)
      have h5 := h.below hal
      have G := h5.again
      have BX : Hid (∀ K W, At _ w1.heap.size d K W → W.cell? ⟨wr.heap.size, 2, none⟩ = some (.string ⟨x.name.toArray⟩) ∧ W.cell? ⟨wr.heap.size, 4, none⟩ = some (.string ⟨x.s.toArray⟩)) :=
        Lib.hid fun K W h => ⟨h.held (Lib.hid ⟨hbx, rfl⟩) 2, h.held (Lib.hid ⟨hbx, rfl⟩) 4⟩
      have H5 := Lib.hid h5
      have OK := Lib.hid h.out.1.ok
      have OD' := OD
      obtain ⟨fk, fn, f1, f2, f3⟩ := HX.out
      clear hbx hal h5 h OD FW HX
      cases hdd : K.dead
      · obtain ⟨K', e, a, a1, a2, b, b1, b2, ea, ez, ez', hab, hbm, hroom, hcase, hslim⟩ := dies_step OK.out hdd HK.out.1 x.name x.s HK.out.2 hs5
        obtain ⟨δ, hδ⟩ : ∃ δ, b - a = δ := ⟨_, rfl⟩
        obtain ⟨T', hT'⟩ : ∃ T', T + δ = T' := ⟨_, rfl⟩
        have s1 : (b : Int) - (a : Int) = (δ : Int) := by omega
        have s2 : (T : Int) + (δ : Int) = (T' : Int) := by omega
        have s3 : T' ≤ M := by omega
        have wδ : IntKind.i64.wrap (δ : Int) = (δ : Int) := IntWalk.i64_in _ ⟨by omega, by omega⟩
        have wT : IntKind.i64.wrap (T' : Int) = (T' : Int) := IntWalk.i64_in _ ⟨by omega, by omega⟩
        have s4 : (T' : Int) ≤ (M : Int) := by omega
        have EA := Lib.hid ea
        have EZ := Lib.hid ez
        have EZ' := Lib.hid ez'
        have HD := Lib.hid hdd
        have HR : Hid (K'.room = some (M - T') ∧ Slim (k + 1) ((k + 1) * 5000) K') := Lib.hid ⟨by rw [hroom]; congr 1; omega, slim_mono hslim (Nat.le_refl _) (by omega)⟩
        rw [hδ] at hcase hbm
        clear hdd ea ez ez' hroom hslim HK OK hab hδ hbm
        rcases hcase with ⟨rfl, hd', hm⟩ | ⟨rfl, hd', rfl⟩ | ⟨he, hd'⟩
        · have HD' := Lib.hid hd'
          obtain rfl : T' = M := by omega
          clear hd' hm hT'
          go_wp2_with fail
          generalize wr.alloc (.cells #[.int .i64 x.kind, .int .i64 x.n, .string ⟨x.name.toArray⟩, .string ⟨x.to.toArray⟩, .string ⟨x.s.toArray⟩] 32) = w5 at *
          generalize wr.heap.size = xb at *
          generalize x.name = nm at *
          generalize x.s = sx at *
          clear c0 c1 c2 c3 c4
          obtain ⟨p2, p4⟩ := BX.out _ _ G
          refine (at_dead G HD.out).mono ?_
          rintro e w6 ⟨rfl, rfl⟩
          go_wp2_with (first
            | (go_at_call 31; refine (at_dead G3 HD'.out).mono ?_; rintro e w6 ⟨rfl, rfl⟩)
            | (go_at_call 19; refine (at_size G2 EZ'.out f1).mono ?_; rintro e w9 ⟨rfl, G3⟩; clear p2 p4; obtain ⟨p2, p4⟩ := BX.out _ _ G3)
            | (go_at_call 21; refine (at_append G1 EA.out f1 f3).mono ?_; rintro e w8 ⟨rfl, G2⟩; clear p2 p4; obtain ⟨p2, p4⟩ := BX.out _ _ G2)
            | (go_at_call 19; refine (at_size G EZ.out f1).mono ?_; rintro e w7 ⟨rfl, G1⟩; clear p2 p4; obtain ⟨p2, p4⟩ := BX.out _ _ G1))
          go_roundw
          case rel => exact ⟨k + 1, T', K', by omega, by go_num, rfl, s3, HR, H5.out.trans G3⟩
          case measure => simp [intOf]; omega
        · have HD' := Lib.hid hd'
          clear hd' hT'
          go_wp2_with fail
          generalize wr.alloc (.cells #[.int .i64 x.kind, .int .i64 x.n, .string ⟨x.name.toArray⟩, .string ⟨x.to.toArray⟩, .string ⟨x.s.toArray⟩] 32) = w5 at *
          generalize wr.heap.size = xb at *
          generalize x.name = nm at *
          generalize x.s = sx at *
          clear c0 c1 c2 c3 c4
          obtain ⟨p2, p4⟩ := BX.out _ _ G
          refine (at_dead G HD.out).mono ?_
          rintro e w6 ⟨rfl, rfl⟩
          go_wp2_with (first
            | (go_at_call 31; refine (at_dead G3 HD'.out).mono ?_; rintro e w6 ⟨rfl, rfl⟩)
            | (go_at_call 19; refine (at_size G2 EZ'.out f1).mono ?_; rintro e w9 ⟨rfl, G3⟩; clear p2 p4; obtain ⟨p2, p4⟩ := BX.out _ _ G3)
            | (go_at_call 21; refine (at_append G1 EA.out f1 f3).mono ?_; rintro e w8 ⟨rfl, G2⟩; clear p2 p4; obtain ⟨p2, p4⟩ := BX.out _ _ G2)
            | (go_at_call 19; refine (at_size G EZ.out f1).mono ?_; rintro e w7 ⟨rfl, G1⟩; clear p2 p4; obtain ⟨p2, p4⟩ := BX.out _ _ G1))
          go_roundw
          case rel => exact ⟨k + 1, T', K', by omega, by go_num, rfl, s3, HR, H5.out.trans G3⟩
          case measure => simp [intOf]; omega
        · have HD' := Lib.hid hd'
          clear hd' hT'
          obtain rfl | rfl := he
          all_goals
            go_wp2_with fail
            generalize wr.alloc (.cells #[.int .i64 x.kind, .int .i64 x.n, .string ⟨x.name.toArray⟩, .string ⟨x.to.toArray⟩, .string ⟨x.s.toArray⟩] 32) = w5 at *
            generalize wr.heap.size = xb at *
            generalize x.name = nm at *
            generalize x.s = sx at *
            clear c0 c1 c2 c3 c4
            obtain ⟨p2, p4⟩ := BX.out _ _ G
            refine (at_dead G HD.out).mono ?_
            rintro e w6 ⟨rfl, rfl⟩
            go_wp2_with (first
              | (go_at_call 31; refine (at_dead G3 HD'.out).mono ?_; rintro e w6 ⟨rfl, rfl⟩)
              | (go_at_call 19; refine (at_size G2 EZ'.out f1).mono ?_; rintro e w9 ⟨rfl, G3⟩; clear p2 p4; obtain ⟨p2, p4⟩ := BX.out _ _ G3)
              | (go_at_call 21; refine (at_append G1 EA.out f1 f3).mono ?_; rintro e w8 ⟨rfl, G2⟩; clear p2 p4; obtain ⟨p2, p4⟩ := BX.out _ _ G2)
              | (go_at_call 19; refine (at_size G EZ.out f1).mono ?_; rintro e w7 ⟨rfl, G1⟩; clear p2 p4; obtain ⟨p2, p4⟩ := BX.out _ _ G1))
            go_roundw
            case rel => exact ⟨k + 1, T', K', by omega, by go_num, rfl, s3, HR, H5.out.trans G3⟩
            case measure => simp [intOf]; omega
      · obtain ⟨e, ea, es, er, he⟩ := dead_all hdd x.name x.s
        obtain ⟨t, c, et⟩ : ∃ t c, Dk.read K x.name = (t, c) := ⟨_, _, rfl⟩
        have EA := Lib.hid ea
        have ES := Lib.hid es
        have ER := Lib.hid er
        have ET := Lib.hid et
        have HD := Lib.hid hdd
        have HK' : Hid (K.room = some (M - T) ∧ Slim (k + 1) ((k + 1) * 5000) K) := Lib.hid ⟨HK.out.1, slim_mono HK.out.2 (by omega) (by omega)⟩
        clear hdd ea es er et HK OK
        obtain rfl | rfl := he
        all_goals
          go_wp2_with fail
          generalize wr.alloc (.cells #[.int .i64 x.kind, .int .i64 x.n, .string ⟨x.name.toArray⟩, .string ⟨x.to.toArray⟩, .string ⟨x.s.toArray⟩] 32) = w5 at *
          generalize wr.heap.size = xb at *
          generalize x.name = nm at *
          generalize x.s = sx at *
          clear c0 c1 c2 c3 c4
          obtain ⟨p2, p4⟩ := BX.out _ _ G
          refine (at_dead G HD.out).mono ?_
          rintro e w6 ⟨rfl, rfl⟩
          go_wp2_with (first
            | (go_at_call 17; refine (at_read G ET.out f1).mono ?_; rintro e w6 ⟨rfl, rfl⟩)
            | (go_at_call 21; refine (at_append G EA.out f1 f3).mono ?_; rintro e w7 ⟨rfl, G1⟩; clear p2 p4; obtain ⟨p2, p4⟩ := BX.out _ _ G1))
          go_region_held3 (fun W => W.cell? ⟨xb, 2, none⟩ = some (.string ⟨nm.toArray⟩))
            (first | (exact (BX.out _ _ G3).1) | (exact (BX.out _ _ G2).1) | (exact (BX.out _ _ G1.drew).1))
            (first
            | (go_at_call 29; refine (at_remove G2 ER.out f1).mono ?_; rintro e w9 ⟨rfl, G3⟩)
            | (go_at_call 22; refine (at_sync G1.drew ES.out f1).mono ?_; rintro e w8 ⟨rfl, G2⟩))
          all_goals
            go_wp2_with (go_at_call 17; refine (at_read G3 ET.out f1).mono ?_; rintro e w6 ⟨rfl, rfl⟩)
            go_roundw
            case rel => exact ⟨k + 1, T, K, by omega, by go_num, rfl, hT, HK', H5.out.trans G3⟩
            case measure => simp [intOf]; omega
    · have hlt' : ¬ (k : Int) < (D.length : Int) := by omega
      obtain ⟨K1, e1⟩ : ∃ K1, Dk.crash K p = K1 := ⟨_, rfl⟩
      obtain ⟨K2, e2⟩ := more_fits HK.out.2 (by omega) (by omega) p
      have hd1 : K1.dead = false := by rw [← e1]; rfl
      rw [e1] at e2
      have E1 := Lib.hid e1
      have E2 := Lib.hid e2
      have HD := Lib.hid hd1
      clear e1 e2 hd1 HK OD FW
      go_wp2_with (first
        | (go_at_call 23; refine (at_crash h E1.out hp).mono ?_; rintro e w5 ⟨rfl, G1⟩)
        | (go_at_call 31; refine (at_dead G1 HD.out).mono ?_; rintro e w6 ⟨rfl, rfl⟩)
        | (go_at_call 21; refine (at_append G1 E2.out (by decide) (by decide)).mono ?_; rintro e w7 ⟨rfl, G2⟩)
        | (go_at_call 16; refine (awake_at G2).mono ?_; rintro e w8 ⟨rfl, HB4⟩))
      go_ret
      exact ⟨rfl, B1.out.trans (HB4.out.mono B1.out.size)⟩
end Go.Proofs.Ytklgiocihknebaa
