/- The code's store: Copy. -/
import Derived.Test.YteohkbepefjjlaaKArAllT
import Derived.Test.YteohkbepefjjlaaKAPu
namespace Go.Proofs.Yteohkbepefjjlaa
open Go.RowKit Go.Shelf Pz Ar
set_option linter.unusedVariables false
set_option linter.unusedSimpArgs false
attribute [local go_sem] Oper.semAt_some

/-- between two rounds: the store in the making, the variable's box, the iterator's box, the loop's blocks -/
structure CopI (w : World) (Pv : Value) (q bc bp D : Nat) (pre : List Bn) (W : World) : Prop where
  bel : Below w.heap.size w W
  bc_ : W.heap[bc]? = some (.cells #[.pointer (some ⟨q, 0, none⟩)] PST (0, 0))
  bp_ : W.heap[bp]? = some (.cells #[Pv] PST (0, 0))
  st : ∃ G : Foot, CS G q (addAll pre) W ∧ (∀ b, G b → w.heap.size ≤ b) ∧ ¬ G bc ∧ ¬ G bp ∧ ¬ G D ∧ ¬ G (D + 1)
abbrev CF : Nat := 50
abbrev actC (Pv : Value) (q bc bp : Nat) (x : Bn) (b : Nat) : Act := { tmps := #[Pv, undef, .pointer none, .pointer (some ⟨bc, 0, none⟩), .pointer (some ⟨b, 0, none⟩), .pointer (some ⟨q, 0, none⟩), Pv, .func (.func CF) #[] #[.pointer (some ⟨bp, 0, none⟩)], x.val, undef, undef, undef, undef], defers := [] }
section
variable {w W V : World} {Pv : Value} {q bc bp D : Nat} {pre : List Bn}
theorem CopI.below (h : CopI w Pv q bc bp D pre W) (hb : Below W.heap.size W V) : CopI w Pv q bc bp D pre V := by
  obtain ⟨G, h1, h2⟩ := h.st
  exact ⟨h.bel.trans (hb.mono h.bel.size), (hb.block _ (Bx.lt h.bc_)).trans h.bc_, (hb.block _ (Bx.lt h.bp_)).trans h.bp_, G, h1.below hb, h2⟩
theorem CopI.put (h : CopI w Pv q bc bp D pre W) (hD : w.heap.size ≤ D) {k : Nat} {x o : Obj} (hk : k = D ∨ k = D + 1) (hx : W.heap[k]? = some x) (hc : x.isCells = false) : CopI w Pv q bc bp D pre (W.putObj k o) := by
  obtain ⟨G, h1, h2, h3, h4, h5, h6⟩ := h.st
  refine ⟨below_put h.bel (by omega), cells_put h.bc_ hx hc, cells_put h.bp_ hx hc, G, h1.kept (by rw [Rg.put_below]; exact Nat.le_refl _) (fun b hb => World.putObj_heap_other (fun e => ?_)), h2, h3, h4, h5, h6⟩
  subst e
  rcases hk with rfl | rfl
  · exact h5 hb
  · exact h6 hb
/-- an entity more -/
theorem CopI.step (h : CopI w Pv q bc bp D pre W) (hD : D + 1 < W.heap.size) {full : List Bn} (hf : Ok full) {x : Bn} (hp : pre ++ [x] <+: full) (hl : full.length + 1 ≤ 100000) :
    Calls Try.prog 44 #[.pointer (some ⟨q, 0, none⟩), x.val] W fun e V => e = .returned (.tuple #[]) ∧ Hid (V.heap[D]? = W.heap[D]? ∧ V.heap[D + 1]? = W.heap[D + 1]? ∧ Keep (fun k => k < w.heap.size ∨ k = bp) W V ∧ CopI w Pv q bc bp D (pre ++ [x]) V) := by
  obtain ⟨G, h1, h2, h3, h4, h5, h6⟩ := h.st
  have hok := hf.pre hp
  have hlen : pre.length ≤ full.length := by have := hp.length_le; simp at this; omega
  refine (add_any h1 x (hok.may x (by simp)) (addAll_find hok.new) (fun m => by have := addAll_len pre m; omega)).mono ?_
  rintro e V ⟨rfl, hr, hO⟩
  have hs := h.bel.size
  refine ⟨rfl, Lib.hid ⟨hO.block D (by omega) h5, hO.block (D + 1) (by omega) h6, fun k hk => ?_, (hO.below h2 hs) |> fun hb => ⟨⟨hb.os.trans h.bel.os, hb.tape.trans h.bel.tape, hb.output.trans h.bel.output, Nat.le_trans hs hb.size, fun k hk => (hb.block k hk).trans (h.bel.block k hk)⟩, (hO.block bc (Bx.lt h.bc_) h3).trans h.bc_, (hO.block bp (Bx.lt h.bp_) h4).trans h.bp_, _, by rw [addAll_snoc]; exact hr, ?_, ?_, ?_, ?_, ?_⟩⟩⟩
  · rcases hk with hk | rfl
    · exact hO.block k (by omega) (fun e => by have := h2 k e; omega)
    · exact hO.block _ (Bx.lt h.bp_) h4
  · intro b hb
    rcases hb with hb | hb
    · exact h2 b hb
    · omega
  · rintro (e | e)
    · exact h3 e
    · have := Bx.lt h.bc_; omega
  · rintro (e | e)
    · exact h4 e
    · have := Bx.lt h.bp_; omega
  · rintro (e | e)
    · exact h5 e
    · omega
  · rintro (e | e)
    · exact h6 e
    · omega
end
set_option maxHeartbeats 16000000 in
set_option maxRecDepth 100000 in
theorem copy_of {w : World} {Pv : Value} {full : List Bn} (hY : Yields Pv full w) (hP : Pv = .pointer none ∨ ∃ p, Pv = .pointer (some ⟨p, 0, none⟩)) (hf : Ok full) (hl : full.length + 1 ≤ 100000) :
    Calls Try.prog 25 #[Pv] w fun e w' => e = .returned (.pointer (some ⟨w.heap.size, 0, none⟩)) ∧ CS (Gr Foot.no w.heap.size w'.heap.size) w.heap.size (addAll full) w' ∧ Below w.heap.size w w' := by
  have AL := Lib.hid fun W => allc_any W Pv hP
  have NW := Lib.hid (new_any w)
  refine (callsIn_wide (n := 9)).1 ?_
  refine callsIn_of_wp_marks Try.func25 rfl trivial ?_ rfl
  simp only [Try.ntmps25, List.size_toArray, List.length_cons, List.length_nil, Nat.reduceAdd, Nat.reduceSub, Array.replicate_succ, Array.replicate_zero, List.push_toArray, List.append_toArray, List.nil_append, List.cons_append]
  gi_wp2_with (first
    | (refine ⟨trivial, ?_⟩; gi_at_call 11; refine (callsIn_wide.2 NW.out).mono ?_; rintro e w1 ⟨rfl, hc1, hb1⟩)
    | (refine ⟨trivial, ?_⟩; gi_at_call 43; refine (callsIn_wide.2 (AL.out _)).mono ?_; rintro e w2 ⟨rfl, rfl⟩))
  have t1 := at2a w1 (.cells #[.pointer (some ⟨w.heap.size, 0, none⟩)] PST) (.cells #[Pv] PST)
  have t2 := at2b w1 (.cells #[.pointer (some ⟨w.heap.size, 0, none⟩)] PST) (.cells #[Pv] PST)
  have b2 := bel2 w1 (.cells #[.pointer (some ⟨w.heap.size, 0, none⟩)] PST) (.cells #[Pv] PST)
  have s2 := size2 w1 (.cells #[.pointer (some ⟨w.heap.size, 0, none⟩)] PST) (.cells #[Pv] PST)
  have hs1 := hb1.size
  have hq1 : w.heap.size < w1.heap.size := hc1.lt _ hc1.mine
  generalize (w1.alloc (.cells #[.pointer (some ⟨w.heap.size, 0, none⟩)] PST)).alloc (.cells #[Pv] PST) = w3 at *
  have hI0 : CopI w Pv w.heap.size w1.heap.size (w1.heap.size + 1) w3.heap.size [] w3 := ⟨hb1.trans (b2.mono hs1), t1, t2, _, hc1.below b2, (fun b hb => by
    rcases hb with hb | hb
    · cases hb
    · omega), (fun hb => by rcases hb with hb | hb; cases hb; omega), (fun hb => by rcases hb with hb | hb; cases hb; omega), (fun hb => by rcases hb with hb | hb; cases hb; omega), (fun hb => by rcases hb with hb | hb; cases hb; omega)⟩
  have hW3 : ∀ {k : Nat} {A : World}, Rg.Turn w3.heap.size A k → w1.heap.size + 1 < k ∧ ∃ o, A.heap[k]? = some o ∧ o.isCells = false := fun {k A} h => ⟨by have := h.1; omega, by obtain ⟨o, h1, h2, _⟩ := h.2; exact ⟨o, h1, h2⟩⟩
  have HSEQ := hY w3 (w1.heap.size + 1) (hb1.trans (b2.mono hs1)) t2 8 (by omega)
  clear t1 t2 hY hP NW AL hc1 hb1 b2
  refine Rg.range (w := w3) rfl (by omega) (gf := CF) (lb := #[.pointer (some ⟨w1.heap.size + 1, 0, none⟩)]) rfl trivial (enters_of Try.func50 (by kernel_rfl) rfl) (encs := encB) (fun _ => rfl) (Kp := Keep fun k => k < w.heap.size ∨ k = w1.heap.size + 1) (full := full)
    (CopI w Pv w.heap.size w1.heap.size (w1.heap.size + 1) w3.heap.size) (fun _ _ _ => False) (fun x a' V => ∃ b, V.heap[b]? = some (.cells #[.int .i64 x.s, .int .i64 x.i, .int .i64 x.g, .int .i64 x.m, .int .i64 x.x, .int .i64 x.y, .int .i64 x.vx, .int .i64 x.vy, .int .i64 x.h, .int .i64 x.p, .int .i64 x.l] 35 (0, 0)) ∧ a' = actC Pv w.heap.size w1.heap.size (w1.heap.size + 1) x b)
    (fun h k b hb => (k b hb).trans (h b hb)) (fun xs A B hI hb k hk => hb.block k ?kb) (fun A k o' hT b hb => World.putObj_heap_other (by have := (hW3 hT).1; omega))
    (fun xs A B hI hb => hI.below hb) (fun xs A k o' hT hI => ?ip) (fun c xs A k o' hT hX => hX.elim) (fun x a' A k o' hT hA => ?ap) HSEQ ?assign ?body hI0 ?done ?stop
  case kb =>
    rcases hk with hk | rfl
    · have := hI.bel.size; omega
    · exact Bx.lt hI.bp_
  case ip =>
    obtain ⟨h1, o, h2, h3⟩ := hW3 hT
    exact hI.put (by omega) hT.1 h2 h3
  case ap =>
    obtain ⟨h1, o, h2, h3⟩ := hW3 hT
    obtain ⟨b, e1, e2⟩ := hA
    exact ⟨b, cells_put e1 h2 h3, e2⟩
  case assign =>
    intro l x W K hK
    have HK := Lib.hid (hK (actC Pv w.heap.size w1.heap.size (w1.heap.size + 1) x W.heap.size) _ (bel1 W (bobj x)) ⟨W.heap.size, at1 W (bobj x), rfl⟩)
    clear hK
    simp only [encB, Bn.val, bobj, actC] at *
    gi_wp2
    exact HK.out
  case body =>
    rintro pre x W a' hI1 hpre ⟨bx, hbx, rfl⟩ ⟨rl, hl'⟩ hd
    have C := Lib.hid (hI1.step (Bx.lt hl') hf hpre hl)
    have kc := (Bx.b1 hI1.bc_).1
    obtain ⟨k0, k1, k2, k3, k4, k5, k6, k7, k8, k9, k10⟩ := (Bx.b11 hbx).1
    clear hI1 hpre HSEQ hI0 hW3 hbx hl' hd hf
    simp only [actC, Bn.val] at *
    gi_wp2_with (refine ⟨trivial, ?_⟩; gi_at_call 44; refine (CallsIn.inRound (w3.heap.size + 1) (callsIn_wide.2 C.out)).mono ?_; rintro e w4 ⟨rfl, HX⟩)
    exact HX.out
  case done =>
    intro W hI hd
    have kc := (Bx.b1 hI.bc_).1
    have hI2 := hI.put (by omega) (.inl rfl) (o := .deferred none) hd rfl
    obtain ⟨G, h1, h2, _⟩ := hI2.st
    have FX := Lib.hid (show CS (Gr Foot.no w.heap.size (W.putObj w3.heap.size (.deferred none)).heap.size) w.heap.size (addAll full) (W.putObj w3.heap.size (.deferred none)) ∧ Below w.heap.size w (W.putObj w3.heap.size (.deferred none)) from ⟨h1.more (fun b hb => .inr ⟨h2 b hb, h1.lt b hb⟩) (fun b hb => by
      rcases hb with hb | hb
      · cases hb
      · exact hb.2), hI2.bel⟩)
    have HK := Lib.hid hd
    clear hI hI2 h1 h2 hd HSEQ hI0 hW3 hf
    gi_wp2
    refine ⟨by simp, .inl ⟨_, _, rfl, run_takeDeferred HK.out, ?_⟩⟩
    exact ⟨_, results_tmp rfl _ _ _, by simp, FX.out⟩
  case stop =>
    rintro c pre W hX hd
    exact hX.elim
theorem copy_any {F : Foot} {p : Nat} {t : Tb} {w : World} (h : CS F p t w) (hl : total t + 1 ≤ 100000) : Calls Try.prog 25 #[.pointer (some ⟨p, 0, none⟩)] w fun e w' => e = .returned (.pointer (some ⟨w.heap.size, 0, none⟩)) ∧ CS (Gr Foot.no w.heap.size w'.heap.size) w.heap.size t w' ∧ Below w.heap.size w w' := by
  have := copy_of h.yields (.inr ⟨p, rfl⟩) (all_ok h.good) (by rw [total_all]; exact hl)
  rwa [addAll_all h.good] at this
theorem copy_nil (w : World) : Calls Try.prog 25 #[.pointer none] w fun e w' => e = .returned (.pointer (some ⟨w.heap.size, 0, none⟩)) ∧ CS (Gr Foot.no w.heap.size w'.heap.size) w.heap.size (fun _ => []) w' ∧ Below w.heap.size w w' :=
  copy_of (nil_yields w) (.inl rfl) ⟨fun b hb => by simp at hb, by simp⟩ (by simp)
theorem all_any {F : Foot} {p : Nat} {t : Tb} {w : World} (h : CS F p t w) (most : Nat) (hm : most ≤ 100000) (hl : total t ≤ 100000) :
    Calls Try.prog 23 #[.pointer (some ⟨p, 0, none⟩), .int .i64 (most : Int)] w fun e w' => ∃ A c, e = .returned (.slice A ((all t).take most).length c) ∧ OwnB w' w.heap.size (.slice A ((all t).take most).length c) ((all t).take most) ∧ Below w.heap.size w w' :=
  all_of h.yields (.inr ⟨p, rfl⟩) most hm (by rw [total_all]; exact hl)
end Go.Proofs.Yteohkbepefjjlaa
