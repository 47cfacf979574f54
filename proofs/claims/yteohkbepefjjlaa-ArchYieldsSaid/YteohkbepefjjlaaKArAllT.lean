/- What a store yields, collected: the law's all, walked. -/
import Derived.Test.YteohkbepefjjlaaKArAll
namespace Go.Proofs.Yteohkbepefjjlaa
open Go.RowKit Go.Shelf Pz Ar
set_option linter.unusedVariables false
set_option linter.unusedSimpArgs false
attribute [local go_sem] Oper.semAt_some

/-- where the loop is left -/
def AllX (w : World) (full : List Bn) (most : Nat) (c : Code) (W : World) : Prop := c = .exit 0 ∧ Below w.heap.size w W ∧ ∃ v, W.heap[w.heap.size + 1]? = some (.cells #[v] 26 (0, 0)) ∧ OwnB W w.heap.size v (full.take most)
abbrev actA (w : World) (Pv : Value) (most : Nat) (x : Bn) (b : Nat) : Act := { tmps := #[Pv, .int .i64 (most : Int), undef, .pointer (some ⟨w.heap.size, 0, none⟩), .slice none 0 0, .pointer (some ⟨w.heap.size + 1, 0, none⟩), .func (.func 50) #[] #[.pointer (some ⟨w.heap.size + 2, 0, none⟩)], .pointer (some ⟨b, 0, none⟩), Pv, .func (.func 50) #[] #[.pointer (some ⟨w.heap.size + 2, 0, none⟩)], .func (.func 50) #[] #[.pointer (some ⟨w.heap.size + 2, 0, none⟩)], .bool false, .func (.func 50) #[] #[.pointer (some ⟨w.heap.size + 2, 0, none⟩)], x.val, undef, undef, undef, undef, undef, undef, undef, undef, undef], defers := [] }
set_option maxHeartbeats 16000000 in
set_option maxRecDepth 100000 in
theorem all_of {w : World} {Pv : Value} {full : List Bn} (hY : Yields Pv full w) (hP : Pv = .pointer none ∨ ∃ p, Pv = .pointer (some ⟨p, 0, none⟩)) (most : Nat) (hm : most ≤ 100000) (hfl : full.length ≤ 100000) :
    Calls Try.prog 23 #[Pv, .int .i64 (most : Int)] w fun e w' => ∃ A c, e = .returned (.slice A (full.take most).length c) ∧ OwnB w' w.heap.size (.slice A (full.take most).length c) (full.take most) ∧ Below w.heap.size w w' := by
  have AL := Lib.hid fun W => allc_any W Pv hP
  have EQF := fun b V => eql_fun 50 b V
  have t0 := at2a w (.cells #[.int .i64 (most : Int)] 3) (.cells #[.slice none 0 0] 26)
  have t1 := at2b w (.cells #[.int .i64 (most : Int)] 3) (.cells #[.slice none 0 0] 26)
  have b2 := bel2 w (.cells #[.int .i64 (most : Int)] 3) (.cells #[.slice none 0 0] 26)
  have s2 := size2 w (.cells #[.int .i64 (most : Int)] 3) (.cells #[.slice none 0 0] 26)
  refine (callsIn_wide (n := 9)).1 ?_
  refine callsIn_of_wp_marks Try.func23 rfl trivial ?_ rfl
  simp only [Try.ntmps23, List.size_toArray, List.length_cons, List.length_nil, Nat.reduceAdd, Nat.reduceSub, Array.replicate_succ, Array.replicate_zero, List.push_toArray, List.append_toArray, List.nil_append, List.cons_append]
  gi_wp2_with (refine ⟨trivial, ?_⟩; gi_at_call 43; refine (callsIn_wide.2 (AL.out _)).mono ?_; rintro e w2 ⟨rfl, rfl⟩)
  have t0' := (Below.heap_alloc _ (.cells #[Pv] PST) _ (Bx.lt t0)).trans t0
  have t1' := (Below.heap_alloc _ (.cells #[Pv] PST) _ (Bx.lt t1)).trans t1
  have t2' := at1 ((w.alloc (.cells #[.int .i64 (most : Int)] 3)).alloc (.cells #[.slice none 0 0] 26)) (.cells #[Pv] PST)
  rw [s2] at t2'
  have b3 := bel3 w (.cells #[.int .i64 (most : Int)] 3) (.cells #[.slice none 0 0] 26) (.cells #[Pv] PST)
  have s3 := size3 w (.cells #[.int .i64 (most : Int)] 3) (.cells #[.slice none 0 0] 26) (.cells #[Pv] PST)
  clear t0 t1 b2 s2 AL EQF
  generalize ((w.alloc (.cells #[.int .i64 (most : Int)] 3)).alloc (.cells #[.slice none 0 0] 26)).alloc (.cells #[Pv] PST) = w3 at *
  have hI0 : AllI w Pv most [] w3 := ⟨b3, t0', ⟨_, t1', .inl ⟨rfl, rfl⟩⟩, t2', Nat.zero_le _⟩
  have hW3 : ∀ {k : Nat} {A : World}, Rg.Turn w3.heap.size A k → w.heap.size + 2 < k ∧ ∃ o, A.heap[k]? = some o ∧ o.isCells = false := fun {k A} h => ⟨by have := h.1; omega, by obtain ⟨o, h1, h2, _⟩ := h.2; exact ⟨o, h1, h2⟩⟩
  have HSEQ := hY w3 (w.heap.size + 2) b3 t2' 8 (by omega)
  clear t0' t1' t2' hY hP
  refine Rg.range (w := w3) rfl (by omega) (gf := 50) (lb := #[.pointer (some ⟨w.heap.size + 2, 0, none⟩)]) rfl trivial (enters_of Try.func50 (by kernel_rfl) rfl) (encs := encB) (fun _ => rfl) (Kp := Keep fun k => k < w.heap.size ∨ k = w.heap.size + 2) (full := full)
    (AllI w Pv most) (fun c _ W => AllX w full most c W) (fun x a' V => ∃ b, V.heap[b]? = some (.cells #[.int .i64 x.s, .int .i64 x.i, .int .i64 x.g, .int .i64 x.m, .int .i64 x.x, .int .i64 x.y, .int .i64 x.vx, .int .i64 x.vy, .int .i64 x.h, .int .i64 x.p, .int .i64 x.l] 35 (0, 0)) ∧ a' = actA w Pv most x b)
    (fun h k b hb => (k b hb).trans (h b hb)) (fun xs A B hI hb k hk => hb.block k ?kb) (fun A k o' hT b hb => World.putObj_heap_other (by have := (hW3 hT).1; omega))
    (fun xs A B hI hb => hI.below hb) (fun xs A k o' hT hI => ?ip) (fun c xs A k o' hT hX => ?ixp) (fun x a' A k o' hT hA => ?ap) HSEQ ?assign ?body hI0 ?done ?stop
  case kb =>
    rcases hk with hk | rfl
    · have := hI.bel.size; omega
    · exact Bx.lt hI.bp
  case ip =>
    obtain ⟨h1, o, h2, h3⟩ := hW3 hT
    exact hI.put (by omega) h2 h3
  case ixp =>
    obtain ⟨h1, o, h2, h3⟩ := hW3 hT
    obtain ⟨e1, e2, v, e3, e4⟩ := hX
    exact ⟨e1, below_put e2 (by omega), v, cells_put e3 h2 h3, own_put e4 h2 h3⟩
  case ap =>
    obtain ⟨h1, o, h2, h3⟩ := hW3 hT
    obtain ⟨b, e1, e2⟩ := hA
    exact ⟨b, cells_put e1 h2 h3, e2⟩
  case assign =>
    intro l x W K hK
    have HK := Lib.hid (hK (actA w Pv most x W.heap.size) _ (bel1 W (bobj x)) ⟨W.heap.size, at1 W (bobj x), rfl⟩)
    clear hK
    simp only [encB, Bn.val, bobj, actA] at *
    gi_wp2
    exact HK.out
  case body =>
    rintro pre x W a' hI1 hpre ⟨bx, hbx, rfl⟩ ⟨rl, hl⟩ hd
    simp only [actA, Bn.val]
    have km := (Bx.b1 hI1.bm).1
    obtain ⟨k0, k1, k2, k3, k4, k5, k6, k7, k8, k9, k10⟩ := (Bx.b11 hbx).1
    by_cases he : pre.length = most
    · obtain ⟨v, e1, e2⟩ := hI1.bl
      obtain ⟨A, c, rfl⟩ := e2.form
      have kl := (Bx.b1 e1).1
      have hfin : full.take most = pre := by
        obtain ⟨r, hr⟩ := hpre
        rw [← hr, ← he]
        simp
      have FX : Hid (AllX w full most (.exit 0) W) := Lib.hid ⟨rfl, hI1.bel, _, e1, by rw [hfin]; exact e2⟩
      clear hI1 hpre e1 e2 hfin HSEQ hI0 hW3 hbx hl hd
      subst he
      gi_wp2
      exact ⟨rfl, rfl, FX.out⟩
    · have hlt : pre.length < most := by have := hI1.le; omega
      have t1 : ((pre.length : Int) = (most : Int)) = False := eq_false (by omega)
      have t2 : ((pre.length : Int) == (most : Int)) = false := by rw [beq_eq_false_iff_ne]; omega
      obtain ⟨A, c, kl, A', n', c', V, hr, hc4, hf4, FIN⟩ := hI1.step x hlt hm
      have FX := Lib.hid (And.intro (FIN.out.2.2 _ _ hd rfl) (And.intro (FIN.out.2.2 _ _ hl rfl) (And.intro (show Keep (fun k => k < w.heap.size ∨ k = w.heap.size + 2) W _ from fun b hb => FIN.out.2.1 b hb) FIN.out.1)))
      have HR := Lib.hid hr
      clear hI1 hpre HSEQ hI0 hW3 hbx hl hd FIN hr
      simp only [bobj] at HR
      gi_wp2_with (gi_at_builtin; refine wpListIn_append rfl (.tmp 18) (.tmp 20) _ _ rfl _ _ rfl rfl _ _ HR.out ?_)
      exact FX.out
  case done =>
    intro W hI hd
    obtain ⟨v, e1, e2⟩ := hI.bl
    have hle := hI.le
    have hfin : full.take most = full := List.take_of_length_le hle
    rw [← hfin] at e2
    obtain ⟨A, c, rfl⟩ := e2.form
    have kl := (Bx.b1 e1).1
    have FX := Lib.hid (show OwnB (W.putObj w3.heap.size (.deferred none)) w.heap.size (.slice A (full.take most).length c) (full.take most) ∧ Below w.heap.size w (W.putObj w3.heap.size (.deferred none)) from ⟨own_put e2 hd rfl, below_put hI.bel (by omega)⟩)
    have HK := Lib.hid hd
    clear hI e1 e2 hd HSEQ hI0 hW3 hfin
    gi_wp2
    refine ⟨by simp, .inl ⟨_, _, rfl, run_takeDeferred HK.out, ?_⟩⟩
    exact ⟨_, results_tmp rfl _ _ _, A, c, by simp [Nat.min_eq_right hle], FX.out⟩
  case stop =>
    rintro c pre W ⟨rfl, hb, v, hv, ho⟩ hd
    obtain ⟨A, c, rfl⟩ := ho.form
    have kl := (Bx.b1 hv).1
    have FX := Lib.hid (show OwnB (W.putObj w3.heap.size (.deferred none)) w.heap.size (.slice A (full.take most).length c) (full.take most) ∧ Below w.heap.size w (W.putObj w3.heap.size (.deferred none)) from ⟨own_put ho hd rfl, below_put hb (by omega)⟩)
    have HK := Lib.hid hd
    clear hv ho hd HSEQ hI0 hW3 hb
    gi_wp2
    refine ⟨by simp, .inl ⟨_, _, rfl, run_takeDeferred HK.out, ?_⟩⟩
    exact ⟨_, results_tmp rfl _ _ _, A, c, by simp, FX.out⟩
end Go.Proofs.Yteohkbepefjjlaa
