/- DiskSure. -/
import Derived.Test.YtklgiocihknebaaDkLaw3
import Derived.Test.YtklgiocihknebaaDkLawS
import Derived.Deep.RegionHeld3
namespace Go.Proofs.Ytklgiocihknebaa
open Go.RowKit Go.Maps Dk
set_option linter.unusedVariables false

/-- a block that the deeds leave alone -/
theorem At.held {w W : World} {B d b : Nat} {K : St} {cs : Array Value} {T : TypeId} (h : At w B d K W) (hb : Hid (w.heap[b]? = some (.cells cs T (0, 0)) ∧ isRef (.cells cs T (0, 0)) = true)) (j : Nat) : W.cell? ⟨b, j, none⟩ = cs[j]? :=
  cellAt (h.out.2.2.kp _ _ hb.out.1 hb.out.2) j
theorem At.drew {w W : World} {B d : Nat} {K : St} (h : At w B d K W) : At w B d K W.drew := h.below (Below.refl _ _).drew

theorem At.trans {w W W' : World} {B d : Nat} {K K' : St} (h : At w B d K W) (k : At W B d K' W') : At w B d K' W' := Lib.hid ⟨k.out.1, h.out.2.1, h.out.2.2.trans k.out.2.2⟩
theorem At.again {w W : World} {B d : Nat} {K : St} (h : At w B d K W) : At W B d K W := At.start h.out.1 h.size
def Keys : Obj := .cells #[.string ⟨#[111, 110, 101]⟩, .string ⟨#[116, 119, 111]⟩] 9 (0, 0)
/-- the disk, and the block of names -/
def Ns (w : World) (B d nb : Nat) (K : St) (W : World) : Prop := Hid (At w B d K W ∧ W.heap[nb]? = some Keys)
/-- what is read: a name, a string of each box -/
def Rd (W : World) (nb ab bb k : Nat) (s a b : Str) : Prop := W.cell? ⟨nb, k, none⟩ = some (.string ⟨s.toArray⟩) ∧ W.cell? ⟨ab, k, none⟩ = some (.string ⟨a.toArray⟩) ∧ W.cell? ⟨bb, k, none⟩ = some (.string ⟨b.toArray⟩)

set_option maxHeartbeats 16000000 in
set_option maxRecDepth 100000 in
theorem law_sure (w : World) (a0 a1 : Str) (h0 : a0.length ≤ 140737488351232) (h1 : a1.length ≤ 140737488351232) (b0 b1 : Str) (k0 : b0.length ≤ 140737488351232) (k1 : b1.length ≤ 140737488351232) (n : Int) (hn : -9223372036854775808 ≤ n ∧ n ≤ 9223372036854775807) :
    Calls Try.prog 5 #[.agg #[.string ⟨a0.toArray⟩, .string ⟨a1.toArray⟩], .agg #[.string ⟨b0.toArray⟩, .string ⟨b1.toArray⟩], .int .i64 n] w fun e w' => e = .returned (.bool true) ∧ Below w.heap.size w w' := by
  obtain ⟨oA, hoA⟩ : ∃ o, o = (.cells #[.string ⟨a0.toArray⟩, .string ⟨a1.toArray⟩] 46 : Obj) := ⟨_, rfl⟩
  obtain ⟨oB, hoB⟩ : ∃ o, o = (.cells #[.string ⟨b0.toArray⟩, .string ⟨b1.toArray⟩] 46 : Obj) := ⟨_, rfl⟩
  have hal1 := bel1 w oA
  have hbx1 := at1 w oA
  have hsz1 := size1 w oA
  have hal2 := bel1 (w.alloc oA) oB
  have hbx2 := at1 (w.alloc oA) oB
  have hsz2 := size1 (w.alloc oA) oB
  by_cases hbig : 100000 < a0.length + a1.length + b0.length + b1.length
  · have hgt : (a0.length : Int) + (a1.length : Int) + (b0.length : Int) + (b1.length : Int) > 100000 := by omega
    have HAL : Hid (Below w.heap.size w ((w.alloc oA).alloc oB)) := Lib.hid (hal1.trans (hal2.mono hal1.size))
    subst hoA hoB
    clear hal1 hbx1 hsz1 hal2 hbx2 hsz2 hbig
    go_enter Try.func5, Try.ntmps5
    go_wp2_with (go_at_call 16; refine (awake_any _).mono ?_; rintro e w4 ⟨rfl, hb4⟩; have HB4 := Lib.hid hb4; clear hb4)
    go_ret
    exact ⟨rfl, HAL.out.trans (HB4.out.mono HAL.out.size)⟩
  · have hgt : ¬ (a0.length : Int) + (a1.length : Int) + (b0.length : Int) + (b1.length : Int) > 100000 := by omega
    obtain ⟨w1, hw1⟩ : ∃ w1, (w.alloc oA).alloc oB = w1 := ⟨_, rfl⟩
    have BXA : Hid (w1.heap[w.heap.size]? = some oA) := Lib.hid (by rw [← hw1, hal2.block _ (heap_lt hbx1)]; exact hbx1)
    have BXB : Hid (w1.heap[(w.alloc oA).heap.size]? = some oB) := Lib.hid (by rw [← hw1]; exact hbx2)
    have HAL : Hid (Below w.heap.size w w1) := Lib.hid (by rw [← hw1]; exact hal1.trans (hal2.mono hal1.size))
    have N := Lib.hid (new_at w1 _ hw1)
    subst hoA hoB
    have BXB' : Hid (w1.heap[w.heap.size + 1]? = some (.cells #[.string ⟨b0.toArray⟩, .string ⟨b1.toArray⟩] 46)) := by rw [hsz1] at BXB; exact BXB
    have FIN : Hid (∀ w', Below w1.heap.size w1 w' → Below w.heap.size w w') := Lib.hid fun w' h => HAL.out.trans (h.mono HAL.out.size)
    clear hal1 hbx1 hsz1 hal2 hbx2 hsz2 hw1 BXB
    have E1 : Hid (Dk.append Dk.new n1 a0 = (Dk.one ⟨n1, [], a0⟩, 0)) := Lib.hid (append_one (by decide) (by omega))
    have E2 : Hid (Dk.sync (Dk.one ⟨n1, [], a0⟩) n1 = (Dk.one ⟨n1, a0, []⟩, 0)) := Lib.hid (by have := sync_one (f := ⟨n1, [], a0⟩) (show bad n1 = false by decide); simpa [Fl.all] using this)
    have E3 : Hid (Dk.append (Dk.one ⟨n1, a0, []⟩) n1 b0 = (Dk.one ⟨n1, a0, b0⟩, 0)) := Lib.hid (by have := append_two (f := ⟨n1, a0, []⟩) (t := b0) (show bad n1 = false by decide) (by simp [Fl.all]; omega); simpa using this)
    have E4 : Hid (Dk.append (Dk.one ⟨n1, a0, b0⟩) n2 a1 = (Dk.two ⟨n1, a0, b0⟩ ⟨n2, [], a1⟩, 0)) := Lib.hid (append_snd (by omega))
    have E5 : Hid (Dk.sync (Dk.two ⟨n1, a0, b0⟩ ⟨n2, [], a1⟩) n2 = (Dk.two ⟨n1, a0, b0⟩ ⟨n2, a1, []⟩, 0)) := Lib.hid (sync_snd a1)
    have E6 : Hid (Dk.append (Dk.two ⟨n1, a0, b0⟩ ⟨n2, a1, []⟩) n2 b1 = (Dk.two ⟨n1, a0, b0⟩ ⟨n2, a1, b1⟩, 0)) := Lib.hid (append_snd2 a1 b1 (by omega))
    have E7 : Hid (Dk.crash (Dk.two ⟨n1, a0, b0⟩ ⟨n2, a1, b1⟩) n = Dk.two (kept n ⟨n1, a0, b0⟩) (kept n ⟨n2, a1, b1⟩)) := Lib.hid rfl
    obtain ⟨m0, hm0⟩ : ∃ m0 : Nat, m0 = min n.toNat b0.length := ⟨_, rfl⟩
    obtain ⟨m1, hm1⟩ : ∃ m1 : Nat, m1 = min n.toNat b1.length := ⟨_, rfl⟩
    have x0 : max (0 : Int) (min n (b0.length : Int)) = (m0 : Int) := by omega
    have x1 : max (0 : Int) (min n (b1.length : Int)) = (m1 : Int) := by omega
    obtain ⟨v0, hv0⟩ : ∃ v0 : Nat, v0 = a0.length + m0 := ⟨_, rfl⟩
    obtain ⟨v1, hv1⟩ : ∃ v1 : Nat, v1 = a1.length + m1 := ⟨_, rfl⟩
    have y0 : (a0.length : Int) + (m0 : Int) = (v0 : Int) := by omega
    have y1 : (a1.length : Int) + (m1 : Int) = (v1 : Int) := by omega
    have l0 : (a0 ++ b0.take n.toNat).length = v0 := by rw [List.length_append, List.length_take]; omega
    have l1 : (a1 ++ b1.take n.toNat).length = v1 := by rw [List.length_append, List.length_take]; omega
    have t0 : (a0 ++ b0).take v0 = a0 ++ b0.take n.toNat := by
      rw [List.take_append, List.take_of_length_le (by omega), show v0 - a0.length = m0 by omega, hm0]
      congr 1
      rw [← List.take_take, List.take_length] 
    have t1 : (a1 ++ b1).take v1 = a1 ++ b1.take n.toNat := by
      rw [List.take_append, List.take_of_length_le (by omega), show v1 - a1.length = m1 by omega, hm1]
      congr 1
      rw [← List.take_take, List.take_length]
    have S0 := sum_two a0 b0 (by omega)
    have S1 := sum_two a1 b1 (by omega)
    have X0 := cut_to (a0 ++ b0) v0
    have X1 := cut_to (a1 ++ b1) v1
    have z0 : (v0 : Int) ≤ ((a0 ++ b0).length : Int) := by rw [List.length_append]; omega
    have z1 : (v1 : Int) ≤ ((a1 ++ b1).length : Int) := by rw [List.length_append]; omega
    have wv0 : IntKind.i64.wrap (v0 : Int) = (v0 : Int) := IntWalk.i64_in _ ⟨by omega, by omega⟩
    have wv1 : IntKind.i64.wrap (v1 : Int) = (v1 : Int) := IntWalk.i64_in _ ⟨by omega, by omega⟩
    rw [t0] at X0
    rw [t1] at X1
    obtain ⟨KC, hKC⟩ : ∃ KC, Dk.two (kept n ⟨n1, a0, b0⟩) (kept n ⟨n2, a1, b1⟩) = KC := ⟨_, rfl⟩
    have R0 : Hid (Dk.read KC n1 = (a0 ++ b0.take n.toNat, 0)) := Lib.hid (by rw [← hKC, read_fst (kept_all n n1 a0 b0).2.2 (kept_all n n2 a1 b1).2.2, (kept_all n n1 a0 b0).1])
    have R1 : Hid (Dk.read KC n2 = (a1 ++ b1.take n.toNat, 0)) := Lib.hid (by rw [← hKC, read_snd (kept_all n n1 a0 b0).2.2 (kept_all n n2 a1 b1).2.2, (kept_all n n2 a1 b1).1])
    have Z0 : Hid (Dk.size KC n1 = (v0, v0, 0)) := Lib.hid (by rw [← hKC, size_fst (kept_all n n1 a0 b0).2.2 (kept_all n n2 a1 b1).2.2, (kept_all n n1 a0 b0).1, (kept_all n n1 a0 b0).2.1, l0])
    have Z1 : Hid (Dk.size KC n2 = (v1, v1, 0)) := Lib.hid (by rw [← hKC, size_snd (kept_all n n1 a0 b0).2.2 (kept_all n n2 a1 b1).2.2, (kept_all n n2 a1 b1).1, (kept_all n n2 a1 b1).2.1, l1])
    have N' := N
    rw [hKC] at E7
    clear hKC hm0 hm1 hv0 hv1 l0 l1 t0 t1 hbig
    generalize a0 ++ b0.take n.toNat = u0 at *
    generalize a1 ++ b1.take n.toNat = u1 at *
    generalize a0 ++ b0 = ab0 at *
    generalize a1 ++ b1 = ab1 at *
    generalize Dk.two ⟨n1, a0, b0⟩ ⟨n2, a1, b1⟩ = K6 at *
    generalize Dk.two ⟨n1, a0, b0⟩ ⟨n2, a1, []⟩ = K5 at *
    generalize Dk.two ⟨n1, a0, b0⟩ ⟨n2, [], a1⟩ = K4 at *
    generalize Dk.one ⟨n1, a0, b0⟩ = K3 at *
    generalize Dk.one ⟨n1, a0, []⟩ = K2 at *
    generalize Dk.one ⟨n1, [], a0⟩ = K1 at *
    have RD0 : Hid (∀ d nb K W, Ns w1 w1.heap.size d nb K W → Hid (∀ K' W', At W w1.heap.size d K' W' → Rd W' nb w.heap.size (w.heap.size + 1) 0 n1 a0 b0)) := Lib.hid fun d nb K W h => Lib.hid fun K' W' h' =>
      ⟨h'.held (Lib.hid ⟨h.out.2, rfl⟩) 0, h'.held (Lib.hid ⟨(h.out.1.out.2.2.kp _ _ BXA.out rfl), rfl⟩) 0, h'.held (Lib.hid ⟨(h.out.1.out.2.2.kp _ _ BXB'.out rfl), rfl⟩) 0⟩
    have RD1 : Hid (∀ d nb K W, Ns w1 w1.heap.size d nb K W → Hid (∀ K' W', At W w1.heap.size d K' W' → Rd W' nb w.heap.size (w.heap.size + 1) 1 n2 a1 b1)) := Lib.hid fun d nb K W h => Lib.hid fun K' W' h' =>
      ⟨h'.held (Lib.hid ⟨h.out.2, rfl⟩) 1, h'.held (Lib.hid ⟨(h.out.1.out.2.2.kp _ _ BXA.out rfl), rfl⟩) 1, h'.held (Lib.hid ⟨(h.out.1.out.2.2.kp _ _ BXB'.out rfl), rfl⟩) 1⟩
    go_enter Try.func5, Try.ntmps5
    go_wp2_with (first
      | (go_at_call 12; refine N.out.mono ?_; rintro e w2 ⟨d, rfl, H0⟩; have q0 := H0.boxed BXA 0; have q1 := H0.boxed BXA 1; have q2 := H0.boxed BXB' 0; have q3 := H0.boxed BXB' 1))
    go_loopw [9] (fun i wr => (i = .int .i64 0 ∧ Ns w1 w1.heap.size d w2.heap.size Dk.new wr) ∨ (i = .int .i64 1 ∧ Ns w1 w1.heap.size d w2.heap.size K3 wr) ∨ (i = .int .i64 2 ∧ Ns w1 w1.heap.size d w2.heap.size K6 wr)) (fun i _ => 2 - (intOf i).toNat)
    case atStart =>
      refine .inl ⟨rfl, Lib.hid ⟨H0.below ((Below.refl _ _).alloc (Nat.le_refl _) _), heap_alloc_new w2 _⟩⟩
    case round =>
      clear H0 q0 q1 q2 q3 N N'
      obtain ⟨rfl, hr⟩ | ⟨rfl, hr⟩ | ⟨rfl, hr⟩ := hrel
      · have RR := RD0.out _ _ _ _ hr
        have G0 := hr.out.1.again
        have HR := hr
        clear hr RD0 RD1 E7 R0 R1 Z0 Z1 X0 X1 S0 S1
        generalize hnb : w2.heap.size = nb at *
        go_wp2
        go_region_held3 (fun W => W.cell? ⟨nb, 0, none⟩ = some (.string ⟨#[111, 110, 101]⟩) ∧ W.cell? ⟨w.heap.size, 0, none⟩ = some (.string ⟨a0.toArray⟩) ∧ W.cell? ⟨w.heap.size + 1, 0, none⟩ = some (.string ⟨b0.toArray⟩))
          (first | (exact RR.out _ _ H3) | (exact RR.out _ _ H2) | (exact RR.out _ _ H1) | (exact RR.out _ _ G0.drew))
          (first
          | (go_at_call 21; refine (at_append H2 E3.out (by decide) k0).mono ?_; rintro e w5 ⟨rfl, H3⟩)
          | (go_at_call 22; refine (at_sync H1 E2.out (by decide)).mono ?_; rintro e w4 ⟨rfl, H2⟩)
          | (go_at_call 21; refine (at_append G0.drew E1.out (by decide) h0).mono ?_; rintro e w3 ⟨rfl, H1⟩))
        have NX : Ns w1 w1.heap.size d nb K3 w5 := Lib.hid ⟨HR.out.1.trans H3, H3.out.2.2.kp _ _ HR.out.2 rfl⟩
        go_wp2
        go_roundw
        case rel => exact .inr (.inl ⟨by go_num, NX⟩)
        case measure => simp [intOf]
      · have RR := RD1.out _ _ _ _ hr
        have G0 := hr.out.1.again
        have HR := hr
        clear hr RD0 RD1 E7 R0 R1 Z0 Z1 X0 X1 S0 S1
        generalize hnb : w2.heap.size = nb at *
        go_wp2
        go_region_held3 (fun W => W.cell? ⟨nb, 1, none⟩ = some (.string ⟨#[116, 119, 111]⟩) ∧ W.cell? ⟨w.heap.size, 1, none⟩ = some (.string ⟨a1.toArray⟩) ∧ W.cell? ⟨w.heap.size + 1, 1, none⟩ = some (.string ⟨b1.toArray⟩))
          (first | (exact RR.out _ _ H3) | (exact RR.out _ _ H2) | (exact RR.out _ _ H1) | (exact RR.out _ _ G0.drew))
          (first
          | (go_at_call 21; refine (at_append H2 E6.out (by decide) k1).mono ?_; rintro e w5 ⟨rfl, H3⟩)
          | (go_at_call 22; refine (at_sync H1 E5.out (by decide)).mono ?_; rintro e w4 ⟨rfl, H2⟩)
          | (go_at_call 21; refine (at_append G0.drew E4.out (by decide) h1).mono ?_; rintro e w3 ⟨rfl, H1⟩))
        have NX : Ns w1 w1.heap.size d nb K6 w5 := Lib.hid ⟨HR.out.1.trans H3, H3.out.2.2.kp _ _ HR.out.2 rfl⟩
        go_wp2
        go_roundw
        case rel => exact .inr (.inr ⟨by go_num, NX⟩)
        case measure => simp [intOf]
      · have HR := hr
        have C0 := hr.out.1.again
        clear hr E1 E2 E3 E4 E5 E6
        generalize hnb : w2.heap.size = nb at *
        go_wp2_with (go_at_call 23; refine (at_crash C0 E7.out hn).mono ?_; rintro e w6 ⟨rfl, H6⟩)
        have NC : Ns w1 w1.heap.size d nb KC w6 := Lib.hid ⟨HR.out.1.trans H6, H6.out.2.2.kp _ _ HR.out.2 rfl⟩
        go_loopw [10] (fun i wr => (i = .int .i64 0 ∨ i = .int .i64 1 ∨ i = .int .i64 2) ∧ Ns w1 w1.heap.size d nb KC wr) (fun i _ => 2 - (intOf i).toNat)
        case atStart => exact ⟨.inl rfl, NC⟩
        case round =>
          clear C0 HR H6 E7 NC
          obtain ⟨hi, hr⟩ := hrel
          obtain rfl | rfl | rfl := hi
          · have RR := RD0.out _ _ _ _ hr
            have G0 := hr.out.1.again
            have HR := hr
            clear hr RD0 RD1 X1 S1 R1 Z1
            obtain ⟨p0, p1, p2⟩ := RR.out _ _ G0
            go_wp2_with (first
              | (go_at_call 17; refine (at_read G0 R0.out (by decide)).mono ?_; rintro e w7 ⟨rfl, rfl⟩)
              | (go_at_call 19; refine (at_size G0 Z0.out (by decide)).mono ?_; rintro e w8 ⟨rfl, H7⟩; clear p0 p1 p2; obtain ⟨p0, p1, p2⟩ := RR.out _ _ H7; have j0 := World.block_lt_of_cell? _ _ p0; have j1 := World.block_lt_of_cell? _ _ p1; have j2 := World.block_lt_of_cell? _ _ p2; dsimp only at j0 j1 j2))
            refine Og.grow 12 (by kernel_rfl) (by kernel_rfl) fun hc' hf => ?_
            simp only [List.take_succ_cons, List.take_zero, List.drop_succ_cons, List.drop_zero]
            iterate 12 (refine Og.det [] rfl (fun J hJ => ?_); go_simp; refine hJ _ _ ?_; clear hJ J)
            refine Og.fin fun W hW => ?_
            simp only [Og.opened_nil]
            clear hc' hf j0 j1 j2 p0 p1 p2
            have H8 := H7.below hW
            obtain ⟨p0, p1, p2⟩ := RR.out _ _ H8
            have j0 := World.block_lt_of_cell? _ _ p0
            have j1 := World.block_lt_of_cell? _ _ p1
            have j2 := World.block_lt_of_cell? _ _ p2
            dsimp only at j0 j1 j2
            clear hW
            go_wp2
            refine Og.grow 29 (by kernel_rfl) (by kernel_rfl) fun hc' hf => ?_
            simp only [List.take_succ_cons, List.take_zero, List.drop_succ_cons, List.drop_zero]
            iterate 29 (refine Og.det [] rfl (fun J hJ => ?_); go_simp; refine hJ _ _ ?_; clear hJ J)
            refine Og.fin fun W' hW => ?_
            simp only [Og.opened_nil]
            clear hc' hf j0 j1 j2 p0 p1 p2
            have H9 := H8.below hW
            have NX : Ns w1 w1.heap.size d nb KC W' := Lib.hid ⟨HR.out.1.trans H9, H9.out.2.2.kp _ _ HR.out.2 rfl⟩
            go_wp2
            go_roundw
            case rel => exact ⟨.inr (.inl (by go_num)), NX⟩
            case measure => simp [intOf]
          · have RR := RD1.out _ _ _ _ hr
            have G0 := hr.out.1.again
            have HR := hr
            clear hr RD0 RD1 X0 S0 R0 Z0
            obtain ⟨p0, p1, p2⟩ := RR.out _ _ G0
            go_wp2_with (first
              | (go_at_call 17; refine (at_read G0 R1.out (by decide)).mono ?_; rintro e w7 ⟨rfl, rfl⟩)
              | (go_at_call 19; refine (at_size G0 Z1.out (by decide)).mono ?_; rintro e w8 ⟨rfl, H7⟩; clear p0 p1 p2; obtain ⟨p0, p1, p2⟩ := RR.out _ _ H7; have j0 := World.block_lt_of_cell? _ _ p0; have j1 := World.block_lt_of_cell? _ _ p1; have j2 := World.block_lt_of_cell? _ _ p2; dsimp only at j0 j1 j2))
            refine Og.grow 12 (by kernel_rfl) (by kernel_rfl) fun hc' hf => ?_
            simp only [List.take_succ_cons, List.take_zero, List.drop_succ_cons, List.drop_zero]
            iterate 12 (refine Og.det [] rfl (fun J hJ => ?_); go_simp; refine hJ _ _ ?_; clear hJ J)
            refine Og.fin fun W hW => ?_
            simp only [Og.opened_nil]
            clear hc' hf j0 j1 j2 p0 p1 p2
            have H8 := H7.below hW
            obtain ⟨p0, p1, p2⟩ := RR.out _ _ H8
            have j0 := World.block_lt_of_cell? _ _ p0
            have j1 := World.block_lt_of_cell? _ _ p1
            have j2 := World.block_lt_of_cell? _ _ p2
            dsimp only at j0 j1 j2
            clear hW
            go_wp2
            refine Og.grow 29 (by kernel_rfl) (by kernel_rfl) fun hc' hf => ?_
            simp only [List.take_succ_cons, List.take_zero, List.drop_succ_cons, List.drop_zero]
            iterate 29 (refine Og.det [] rfl (fun J hJ => ?_); go_simp; refine hJ _ _ ?_; clear hJ J)
            refine Og.fin fun W' hW => ?_
            simp only [Og.opened_nil]
            clear hc' hf j0 j1 j2 p0 p1 p2
            have H9 := H8.below hW
            have NX : Ns w1 w1.heap.size d nb KC W' := Lib.hid ⟨HR.out.1.trans H9, H9.out.2.2.kp _ _ HR.out.2 rfl⟩
            go_wp2
            go_roundw
            case rel => exact ⟨.inr (.inr (by go_num)), NX⟩
            case measure => simp [intOf]
          · have HR := hr.out.1
            clear hr RD0 RD1 R0 R1 Z0 Z1 X0 X1 S0 S1
            go_wp2_with (go_at_call 16; refine (awake_at HR).mono ?_; rintro e w8 ⟨rfl, HB4⟩)
            go_ret
            exact ⟨rfl, FIN.out _ HB4.out⟩
end Go.Proofs.Ytklgiocihknebaa
