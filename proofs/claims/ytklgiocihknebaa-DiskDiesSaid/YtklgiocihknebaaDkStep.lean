/- Step: a deed done to both. -/
import Derived.Test.YtklgiocihknebaaDkTwo
namespace Go.Proofs.Ytklgiocihknebaa
open Go.RowKit Go.Maps Dk
set_option linter.unusedVariables false
/-- a deed, over lists -/
def deedK (K : St) (x : DD) : St :=
  if x.kind = 0 ∨ x.kind = 1 then (Dk.append K x.name x.s).1 else if x.kind = 2 then (Dk.sync K x.name).1 else if x.kind = 3 then (Dk.trunc K x.name x.n).1 else
  if x.kind = 4 then (Dk.rename K x.name x.to).1 else if x.kind = 5 then (Dk.remove K x.name).1 else if x.kind = 6 then Dk.crash K x.n else if x.kind = 7 then Dk.cut K x.n else K
set_option maxHeartbeats 16000000 in
set_option maxRecDepth 100000 in
theorem step_any {w0 w : World} {B d r : Nat} {K : St} (h : P2 w0 B d r K K w) (x : DD) (fx : x.Fine) :
    Calls Try.prog 14 #[.pointer (some ⟨d, 0, none⟩), .pointer (some ⟨r, 0, none⟩), .agg #[.int .i64 x.kind, .int .i64 x.n, .string ⟨x.name.toArray⟩, .string ⟨x.to.toArray⟩, .string ⟨x.s.toArray⟩]] w fun e w' => e = .returned (.bool true) ∧ P2 w0 B d r (deedK K x) (deedK K x) w' := by
  obtain ⟨fk, fn, f1, f2, f3⟩ := fx
  have hal := bel1 w (.cells #[.int .i64 x.kind, .int .i64 x.n, .string ⟨x.name.toArray⟩, .string ⟨x.to.toArray⟩, .string ⟨x.s.toArray⟩] 32)
  have hbx := at1 w (.cells #[.int .i64 x.kind, .int .i64 x.n, .string ⟨x.name.toArray⟩, .string ⟨x.to.toArray⟩, .string ⟨x.s.toArray⟩] 32)
  have h1 := h.below hal
  have G := h1.again
  have BX : Hid (∀ K L W, P2 _ B d r K L W → W.cell? ⟨w.heap.size, 0, none⟩ = some (.int .i64 x.kind) ∧ W.cell? ⟨w.heap.size, 1, none⟩ = some (.int .i64 x.n) ∧ W.cell? ⟨w.heap.size, 2, none⟩ = some (.string ⟨x.name.toArray⟩) ∧ W.cell? ⟨w.heap.size, 3, none⟩ = some (.string ⟨x.to.toArray⟩) ∧ W.cell? ⟨w.heap.size, 4, none⟩ = some (.string ⟨x.s.toArray⟩)) :=
    Lib.hid fun K L W h => ⟨h.held (Lib.hid ⟨hbx, rfl⟩) 0, h.held (Lib.hid ⟨hbx, rfl⟩) 1, h.held (Lib.hid ⟨hbx, rfl⟩) 2, h.held (Lib.hid ⟨hbx, rfl⟩) 3, h.held (Lib.hid ⟨hbx, rfl⟩) 4⟩
  have H1 := Lib.hid h1
  clear h hal hbx h1
  obtain ⟨k, n, s, t, u⟩ := x
  simp only at *
  by_cases k01 : k = 0 ∨ k = 1
  · have hd : deedK K ⟨k, n, s, t, u⟩ = (Dk.append K s u).1 := by unfold deedK; rw [if_pos k01]
    rw [hd]
    obtain ⟨K', c, e⟩ : ∃ K' c, Dk.append K s u = (K', c) := ⟨_, _, rfl⟩
    rw [e]
    have E := Lib.hid e
    clear hd e
    obtain rfl | rfl := k01
    all_goals
      go_enter Try.func14, Try.ntmps14
      obtain ⟨p0, p1, p2, p3, p4⟩ := BX.out _ _ _ G
      go_wp2
      go_region_held3 (fun W => W.cell? ⟨w.heap.size, 1, none⟩ = some (.int .i64 n) ∧ W.cell? ⟨w.heap.size, 2, none⟩ = some (.string ⟨s.toArray⟩) ∧ W.cell? ⟨w.heap.size, 3, none⟩ = some (.string ⟨t.toArray⟩) ∧ W.cell? ⟨w.heap.size, 4, none⟩ = some (.string ⟨u.toArray⟩))
        (first | (exact (BX.out _ _ _ G2).2) | (exact (BX.out _ _ _ G1).2) | (exact (BX.out _ _ _ G.drew).2))
        (first
        | (go_at_call 21; refine (p_append G1 E.out f1 f3).mono ?_; rintro e w3 ⟨rfl, G2⟩)
        | (go_at_call 32; refine (q_append G1 E.out f1 f3).mono ?_; rintro e w3 ⟨rfl, G2⟩)
        | (go_at_call 21; refine (p_append G.drew E.out f1 f3).mono ?_; rintro e w2 ⟨rfl, G1⟩)
        | (go_at_call 32; refine (q_append G.drew E.out f1 f3).mono ?_; rintro e w2 ⟨rfl, G1⟩))
      all_goals
        go_wp2
        go_ret
        exact ⟨rfl, H1.out.trans G2⟩
  · by_cases k2 : k = 2
    · have hd : deedK K ⟨k, n, s, t, u⟩ = (Dk.sync K s).1 := by unfold deedK; rw [if_neg k01, if_pos k2]
      rw [hd]
      obtain ⟨K', c, e⟩ : ∃ K' c, Dk.sync K s = (K', c) := ⟨_, _, rfl⟩
      rw [e]
      have E := Lib.hid e
      clear hd e
      subst k2
      go_enter Try.func14, Try.ntmps14
      obtain ⟨p0, p1, p2, p3, p4⟩ := BX.out _ _ _ G
      go_wp2
      go_region_held3 (fun W => W.cell? ⟨w.heap.size, 1, none⟩ = some (.int .i64 n) ∧ W.cell? ⟨w.heap.size, 2, none⟩ = some (.string ⟨s.toArray⟩) ∧ W.cell? ⟨w.heap.size, 3, none⟩ = some (.string ⟨t.toArray⟩) ∧ W.cell? ⟨w.heap.size, 4, none⟩ = some (.string ⟨u.toArray⟩))
        (first | (exact (BX.out _ _ _ G2).2) | (exact (BX.out _ _ _ G1).2) | (exact (BX.out _ _ _ G.drew).2))
        (first
        | (go_at_call 22; refine (p_sync G1 E.out f1).mono ?_; rintro e w3 ⟨rfl, G2⟩)
        | (go_at_call 33; refine (q_sync G1 E.out f1).mono ?_; rintro e w3 ⟨rfl, G2⟩)
        | (go_at_call 22; refine (p_sync G.drew E.out f1).mono ?_; rintro e w2 ⟨rfl, G1⟩)
        | (go_at_call 33; refine (q_sync G.drew E.out f1).mono ?_; rintro e w2 ⟨rfl, G1⟩))
      all_goals
        go_wp2
        go_ret
        exact ⟨rfl, H1.out.trans G2⟩
    · by_cases k3 : k = 3
      · have hd : deedK K ⟨k, n, s, t, u⟩ = (Dk.trunc K s n).1 := by unfold deedK; rw [if_neg k01, if_neg k2, if_pos k3]
        rw [hd]
        obtain ⟨K', c, e⟩ : ∃ K' c, Dk.trunc K s n = (K', c) := ⟨_, _, rfl⟩
        rw [e]
        have E := Lib.hid e
        clear hd e
        subst k3
        go_enter Try.func14, Try.ntmps14
        obtain ⟨p0, p1, p2, p3, p4⟩ := BX.out _ _ _ G
        go_wp2
        go_region_held3 (fun W => W.cell? ⟨w.heap.size, 1, none⟩ = some (.int .i64 n) ∧ W.cell? ⟨w.heap.size, 2, none⟩ = some (.string ⟨s.toArray⟩) ∧ W.cell? ⟨w.heap.size, 3, none⟩ = some (.string ⟨t.toArray⟩) ∧ W.cell? ⟨w.heap.size, 4, none⟩ = some (.string ⟨u.toArray⟩))
          (first | (exact (BX.out _ _ _ G2).2) | (exact (BX.out _ _ _ G1).2) | (exact (BX.out _ _ _ G.drew).2))
          (first
          | (go_at_call 26; refine (p_trunc G1 E.out f1 fn).mono ?_; rintro e w3 ⟨rfl, G2⟩)
          | (go_at_call 34; refine (q_trunc G1 E.out f1 fn).mono ?_; rintro e w3 ⟨rfl, G2⟩)
          | (go_at_call 26; refine (p_trunc G.drew E.out f1 fn).mono ?_; rintro e w2 ⟨rfl, G1⟩)
          | (go_at_call 34; refine (q_trunc G.drew E.out f1 fn).mono ?_; rintro e w2 ⟨rfl, G1⟩))
        all_goals
          go_wp2
          go_ret
          exact ⟨rfl, H1.out.trans G2⟩
      · by_cases k4 : k = 4
        · have hd : deedK K ⟨k, n, s, t, u⟩ = (Dk.rename K s t).1 := by unfold deedK; rw [if_neg k01, if_neg k2, if_neg k3, if_pos k4]
          rw [hd]
          obtain ⟨K', c, e⟩ : ∃ K' c, Dk.rename K s t = (K', c) := ⟨_, _, rfl⟩
          rw [e]
          have E := Lib.hid e
          clear hd e
          subst k4
          go_enter Try.func14, Try.ntmps14
          obtain ⟨p0, p1, p2, p3, p4⟩ := BX.out _ _ _ G
          go_wp2
          go_region_held3 (fun W => W.cell? ⟨w.heap.size, 1, none⟩ = some (.int .i64 n) ∧ W.cell? ⟨w.heap.size, 2, none⟩ = some (.string ⟨s.toArray⟩) ∧ W.cell? ⟨w.heap.size, 3, none⟩ = some (.string ⟨t.toArray⟩) ∧ W.cell? ⟨w.heap.size, 4, none⟩ = some (.string ⟨u.toArray⟩))
            (first | (exact (BX.out _ _ _ G2).2) | (exact (BX.out _ _ _ G1).2) | (exact (BX.out _ _ _ G.drew).2))
            (first
            | (go_at_call 25; refine (p_rename G1 E.out f1 f2).mono ?_; rintro e w3 ⟨rfl, G2⟩)
            | (go_at_call 35; refine (q_rename G1 E.out f1 f2).mono ?_; rintro e w3 ⟨rfl, G2⟩)
            | (go_at_call 25; refine (p_rename G.drew E.out f1 f2).mono ?_; rintro e w2 ⟨rfl, G1⟩)
            | (go_at_call 35; refine (q_rename G.drew E.out f1 f2).mono ?_; rintro e w2 ⟨rfl, G1⟩))
          all_goals
            go_wp2
            go_ret
            exact ⟨rfl, H1.out.trans G2⟩
        · by_cases k5 : k = 5
          · have hd : deedK K ⟨k, n, s, t, u⟩ = (Dk.remove K s).1 := by unfold deedK; rw [if_neg k01, if_neg k2, if_neg k3, if_neg k4, if_pos k5]
            rw [hd]
            obtain ⟨K', c, e⟩ : ∃ K' c, Dk.remove K s = (K', c) := ⟨_, _, rfl⟩
            rw [e]
            have E := Lib.hid e
            clear hd e
            subst k5
            go_enter Try.func14, Try.ntmps14
            obtain ⟨p0, p1, p2, p3, p4⟩ := BX.out _ _ _ G
            go_wp2
            go_region_held3 (fun W => W.cell? ⟨w.heap.size, 1, none⟩ = some (.int .i64 n) ∧ W.cell? ⟨w.heap.size, 2, none⟩ = some (.string ⟨s.toArray⟩) ∧ W.cell? ⟨w.heap.size, 3, none⟩ = some (.string ⟨t.toArray⟩) ∧ W.cell? ⟨w.heap.size, 4, none⟩ = some (.string ⟨u.toArray⟩))
              (first | (exact (BX.out _ _ _ G2).2) | (exact (BX.out _ _ _ G1).2) | (exact (BX.out _ _ _ G.drew).2))
              (first
              | (go_at_call 29; refine (p_remove G1 E.out f1).mono ?_; rintro e w3 ⟨rfl, G2⟩)
              | (go_at_call 36; refine (q_remove G1 E.out f1).mono ?_; rintro e w3 ⟨rfl, G2⟩)
              | (go_at_call 29; refine (p_remove G.drew E.out f1).mono ?_; rintro e w2 ⟨rfl, G1⟩)
              | (go_at_call 36; refine (q_remove G.drew E.out f1).mono ?_; rintro e w2 ⟨rfl, G1⟩))
            all_goals
              go_wp2
              go_ret
              exact ⟨rfl, H1.out.trans G2⟩
          · by_cases k6 : k = 6
            · have hd : deedK K ⟨k, n, s, t, u⟩ = Dk.crash K n := by unfold deedK; rw [if_neg k01, if_neg k2, if_neg k3, if_neg k4, if_neg k5, if_pos k6]
              rw [hd]
              obtain ⟨K', e⟩ : ∃ K', Dk.crash K n = K' := ⟨_, rfl⟩
              obtain ⟨b, hb⟩ : ∃ b, K'.dead = b := ⟨_, rfl⟩
              rw [e]
              have E := Lib.hid e
              have HD := Lib.hid hb
              clear hd e hb
              subst k6
              go_enter Try.func14, Try.ntmps14
              obtain ⟨p0, p1, p2, p3, p4⟩ := BX.out _ _ _ G
              go_wp2_with (first
                | (go_at_call 23; refine (p_crash G E.out fn).mono ?_; rintro e w2 ⟨rfl, G1⟩; clear p0 p1 p2 p3 p4; obtain ⟨p0, p1, p2, p3, p4⟩ := BX.out _ _ _ G1)
                | (go_at_call 37; refine (q_crash G1 E.out fn).mono ?_; rintro e w3 ⟨rfl, G2⟩))
              go_region_held3 (fun W => W.cell? ⟨r, 3, none⟩ = some (.bool b)) (first | (exact G2.drew.rdead.trans (by rw [HD.out])))
                (first | (go_at_call 31; refine (p_dead G2.drew HD.out).mono ?_; rintro e w4 ⟨rfl, rfl⟩))
              all_goals
                go_wp2
                go_ret
                exact ⟨rfl, H1.out.trans G2.drew⟩
            · by_cases k7 : k = 7
              · have hd : deedK K ⟨k, n, s, t, u⟩ = Dk.cut K n := by unfold deedK; rw [if_neg k01, if_neg k2, if_neg k3, if_neg k4, if_neg k5, if_neg k6, if_pos k7]
                rw [hd]
                obtain ⟨K', e⟩ : ∃ K', Dk.cut K n = K' := ⟨_, rfl⟩
                obtain ⟨b, hb⟩ : ∃ b, K'.dead = b := ⟨_, rfl⟩
                rw [e]
                have E := Lib.hid e
                have HD := Lib.hid hb
                clear hd e hb
                subst k7
                go_enter Try.func14, Try.ntmps14
                obtain ⟨p0, p1, p2, p3, p4⟩ := BX.out _ _ _ G
                go_wp2_with (first
                  | (go_at_call 30; refine (p_cut G E.out fn).mono ?_; rintro e w2 ⟨rfl, G1⟩; clear p0 p1 p2 p3 p4; obtain ⟨p0, p1, p2, p3, p4⟩ := BX.out _ _ _ G1)
                  | (go_at_call 38; refine (q_cut G1 E.out fn).mono ?_; rintro e w3 ⟨rfl, G2⟩))
                go_region_held3 (fun W => W.cell? ⟨r, 3, none⟩ = some (.bool b)) (first | (exact G2.drew.rdead.trans (by rw [HD.out])))
                  (first | (go_at_call 31; refine (p_dead G2.drew HD.out).mono ?_; rintro e w4 ⟨rfl, rfl⟩))
                all_goals
                  go_wp2
                  go_ret
                  exact ⟨rfl, H1.out.trans G2.drew⟩
              · have hd : deedK K ⟨k, n, s, t, u⟩ = K := by unfold deedK; rw [if_neg k01, if_neg k2, if_neg k3, if_neg k4, if_neg k5, if_neg k6, if_neg k7]
                rw [hd]
                obtain ⟨b, hb⟩ : ∃ b, K.dead = b := ⟨_, rfl⟩
                have HD := Lib.hid hb
                have k0 : ¬ k = 0 := fun e => k01 (.inl e)
                have k1 : ¬ k = 1 := fun e => k01 (.inr e)
                clear hd hb k01
                go_enter Try.func14, Try.ntmps14
                obtain ⟨p0, p1, p2, p3, p4⟩ := BX.out _ _ _ G
                go_wp2
                go_region_held3 (fun W => W.cell? ⟨r, 3, none⟩ = some (.bool b)) (first | (exact G.drew.rdead.trans (by rw [HD.out])))
                  (first | (go_at_call 31; refine (p_dead G.drew HD.out).mono ?_; rintro e w4 ⟨rfl, rfl⟩))
                all_goals
                  go_wp2
                  go_ret
                  exact ⟨rfl, H1.out.trans G.drew⟩
end Go.Proofs.Ytklgiocihknebaa
