/- QuFar, QuFind, QuClo, QuFns, in one text. -/
import Derived.Test.YtgmgenggboicnaaKRc
import Derived.Test.YtgmgenggboicnaaKQuB
import Derived.Test.YtgmgenggboicnaaKQuA
import Derived.Test.YtgmgenggboicnaaKSoD
import Derived.Laws.EntriesVeiled
namespace Go.Proofs.Ytgmgenggboicnaa
open Go.RowKit
set_option linter.unusedVariables false
set_option linter.unusedSimpArgs false

set_option maxHeartbeats 400000 in
set_option maxRecDepth 100000 in
theorem clamp_all (n : Int) (w : World) :
    Calls Try.prog 98 #[.int .i64 n] w fun e w' => e = .returned (.int .i64 (Rc.clamp n)) ∧ w = w' := by
  go_enter Try.func98, Try.ntmps98
  go_wp2
  go_ret
  exact ⟨rfl, rfl⟩

set_option maxHeartbeats 1000000 in
set_option maxRecDepth 100000 in
theorem apart_all (a b : Int) (w : World) :
    Calls Try.prog 84 #[.int .i64 a, .int .i64 b] w fun e w' => e = .returned (.int .i64 (Rc.dist a b)) ∧ w = w' := by
  obtain ⟨c0, c1⟩ := Rc.clamp_bd a
  obtain ⟨d0, d1⟩ := Rc.clamp_bd b
  go_enter Try.func84, Try.ntmps84
  go_wp2_with (go_at_call 98; refine (clamp_all _ _).mono ?_; rintro e w' ⟨rfl, rfl⟩)
  go_ret
  exact ⟨rfl, rfl⟩

set_option maxHeartbeats 1000000 in
set_option maxRecDepth 100000 in
theorem far_all (x y u v : Int) (w : World) :
    Calls Try.prog 66 #[.int .i64 x, .int .i64 y, .int .i64 u, .int .i64 v] w fun e w' => e = .returned (.int .i64 (Rc.far x y u v)) ∧ w = w' := by
  go_enter Try.func66, Try.ntmps66
  go_wp2_with fail
  refine (apart_all _ _ _).mono ?_
  rintro e w' ⟨rfl, rfl⟩
  go_wp2_with fail
  refine (apart_all _ _ _).mono ?_
  rintro e w' ⟨rfl, rfl⟩
  go_wp2
  go_ret
  exact ⟨rfl, rfl⟩

set_option maxHeartbeats 400000 in
set_option maxRecDepth 100000 in
theorem rclamp_all (n : Int) (w : World) :
    Calls Try.prog 74 #[.int .i64 n] w fun e w' => e = .returned (.int .i64 (Rc.clamp n)) ∧ w = w' := by
  have e : Rc.clamp n = if 1073741824 < n then 1073741824 else if n < -1073741824 then -1073741824 else n := by unfold Rc.clamp; split <;> (try split) <;> omega
  have E := Lib.hid e
  clear e
  go_enter Try.func74, Try.ntmps74
  go_wp2
  all_goals
    go_ret
    refine ⟨ret_int ?_, rfl⟩
    rw [E.out]
    split <;> (try split) <;> omega

set_option maxHeartbeats 1000000 in
set_option maxRecDepth 100000 in
theorem rfar_all (x y u v : Int) (w : World) :
    Calls Try.prog 46 #[.int .i64 x, .int .i64 y, .int .i64 u, .int .i64 v] w fun e w' => e = .returned (.int .i64 (Rc.far x y u v)) ∧ w = w' := by
  obtain ⟨a0, a1⟩ := Rc.clamp_bd x
  obtain ⟨b0, b1⟩ := Rc.clamp_bd y
  obtain ⟨c0, c1⟩ := Rc.clamp_bd u
  obtain ⟨d0, d1⟩ := Rc.clamp_bd v
  go_enter Try.func46, Try.ntmps46
  go_wp2_with (first | (go_at_call 74; refine (rclamp_all _ _).mono ?_; rintro e w' ⟨rfl, rfl⟩) | (go_at_call 73; refine (rsize_any _ _ (by omega) (by omega)).mono ?_; rintro e w' ⟨rfl, rfl⟩))
  all_goals
    go_ret
    refine ⟨ret_int ?_, rfl⟩
    unfold Rc.far Rc.dist
    omega
theorem has_same (a b c d x y : Int) : hasB a b c d x y = Rc.hasR a b c d x y := by
  unfold hasB Rc.hasR
  rw [decide_eq_decide]
  exact Rc.gap_has a b c d x y
theorem dist_comm (a b : Int) : Rc.dist a b = Rc.dist b a := by unfold Rc.dist; omega
theorem far_comm (x y u v : Int) : Rc.far x y u v = Rc.far u v x y := by unfold Rc.far; rw [dist_comm x u, dist_comm y v]
end Go.Proofs.Ytgmgenggboicnaa
namespace Go.Proofs.Ytgmgenggboicnaa
open Go.RowKit Go.Shelf Pz Ar Qu
set_option linter.unusedVariables false
set_option linter.unusedSimpArgs false
attribute [local go_sem] Oper.semAt_some

/-- a function that tells what holds of an entity, as long as what lies below a bound stays -/
structure HoldAt (P : Bn → Bool) (fh : Nat) (ch : Array Value) (B : Nat) (w : World) : Prop where
  ent : ∀ args W, (callFunc fh args).run Try.prog W = .ok (.enter fh args) W
  says : ∀ (x : Bn), may x = true → ∀ W : World, Below B w W → Calls Try.prog fh (#[x.val] ++ ch) W fun e w' => e = .returned (.bool (P x)) ∧ Below W.heap.size W w'
theorem HoldAt.below {P : Bn → Bool} {fh : Nat} {ch : Array Value} {B : Nat} {w W : World} (h : HoldAt P fh ch B w) (hb : Below B w W) : HoldAt P fh ch B W := ⟨h.ent, fun x hx V hV => h.says x hx V (hb.trans hV)⟩
abbrev HTY : TypeId := 38
abbrev AF : Nat := 80
abbrev actF (w : World) (Pv : Value) (q0 q1 : Int) (fh : Nat) (ch : Array Value) (x : Bn) (b : Nat) : Act := { tmps := #[Pv, qV q0 q1, .func (.func fh) #[] ch, undef, .pointer (some ⟨w.heap.size, 0, none⟩), .pointer (some ⟨w.heap.size + 1, 0, none⟩), .slice none 0 0, .pointer (some ⟨w.heap.size + 2, 0, none⟩), .pointer (some ⟨b, 0, none⟩), Pv, .func (.func AF) #[] #[.pointer (some ⟨w.heap.size + 3, 0, none⟩)], x.val, undef, undef, undef, undef, undef, undef, undef, undef, undef, undef, undef, undef, undef, undef, undef], defers := [] }
def wants (q0 q1 : Int) (P : Bn → Bool) (l : List Bn) : List Bn := l.filter fun b => asks q0 q1 b.m && P b
theorem wants_snoc (q0 q1 : Int) (P : Bn → Bool) (l : List Bn) (x : Bn) : wants q0 q1 P (l ++ [x]) = if asks q0 q1 x.m && P x then wants q0 q1 P l ++ [x] else wants q0 q1 P l := by
  simp only [wants, List.filter_append, List.filter_cons, List.filter_nil]
  split <;> simp
theorem wants_len (q0 q1 : Int) (P : Bn → Bool) (l : List Bn) : (wants q0 q1 P l).length ≤ l.length := List.length_filter_le _ _
abbrev fK (w : World) (Pv : Value) (q0 q1 : Int) (fh : Nat) (ch : Array Value) : List (Nat × Value × TypeId) := [(w.heap.size, qV q0 q1, QTY), (w.heap.size + 1, .func (.func fh) #[] ch, HTY), (w.heap.size + 3, Pv, PST)]
theorem fK_at {w : World} {Pv : Value} {q0 q1 : Int} {fh : Nat} {ch : Array Value} {l : List Bn} {W : World} (h : AccI w (w.heap.size + 2) (fK w Pv q0 q1 fh ch) l W) (hP : Pv.cells = #[Pv]) :
    W.heap[w.heap.size]? = some (.cells #[.int .i64 q0, .int .i64 q1] QTY (0, 0)) ∧ W.heap[w.heap.size + 1]? = some (.cells #[.func (.func fh) #[] ch] HTY (0, 0)) ∧ W.heap[w.heap.size + 3]? = some (.cells #[Pv] PST (0, 0)) := by
  refine ⟨(h.held _ (.head _)).1, (h.held _ (.tail _ (.head _))).1, ?_⟩
  have := (h.held _ (.tail _ (.tail _ (.head _)))).1
  simp only [hP] at this
  exact this
set_option maxHeartbeats 16000000 in
set_option maxRecDepth 100000 in
theorem find_of {w : World} {Pv : Value} {full : List Bn} (hY : Yields Pv full w) (hP : Pv = .pointer none ∨ ∃ p, Pv = .pointer (some ⟨p, 0, none⟩)) (hfl : full.length ≤ 100000) (hmay : ∀ x ∈ full, may x = true) {P : Bn → Bool} {fh : Nat} {ch : Array Value} (HH : HoldAt P fh ch w.heap.size w) (q0 q1 : Int) :
    Calls Try.prog 60 #[Pv, qV q0 q1, .func (.func fh) #[] ch] w fun e w' => ∃ A c, e = .returned (.slice A (wants q0 q1 P full).length c) ∧ OwnB w' w.heap.size (.slice A (wants q0 q1 P full).length c) (sortL Bn.id (wants q0 q1 P full)) ∧ Below w.heap.size w w' := by
  have AL := Lib.hid fun W => allc_any W Pv hP
  have hPc : Pv.cells = #[Pv] := by rcases hP with rfl | ⟨p, rfl⟩ <;> rfl
  have t0 := at3a w (.cells #[.int .i64 q0, .int .i64 q1] QTY) (.cells #[.func (.func fh) #[] ch] HTY) (.cells #[.slice none 0 0] LTY)
  have t1 := at3b w (.cells #[.int .i64 q0, .int .i64 q1] QTY) (.cells #[.func (.func fh) #[] ch] HTY) (.cells #[.slice none 0 0] LTY)
  have t2 := at3c w (.cells #[.int .i64 q0, .int .i64 q1] QTY) (.cells #[.func (.func fh) #[] ch] HTY) (.cells #[.slice none 0 0] LTY)
  have b3 := bel3 w (.cells #[.int .i64 q0, .int .i64 q1] QTY) (.cells #[.func (.func fh) #[] ch] HTY) (.cells #[.slice none 0 0] LTY)
  have s3 := size3 w (.cells #[.int .i64 q0, .int .i64 q1] QTY) (.cells #[.func (.func fh) #[] ch] HTY) (.cells #[.slice none 0 0] LTY)
  have EG := HH.ent
  have HHs := Lib.hid HH.says
  have MT := Lib.hid fun m W => match_any q0 q1 m W
  clear HH
  refine (callsIn_wide (n := 9)).1 ?_
  refine callsIn_of_wp_marks Try.func60 rfl trivial ?_ rfl
  simp only [Try.ntmps60, List.size_toArray, List.length_cons, List.length_nil, Nat.reduceAdd, Nat.reduceSub, Array.replicate_succ, Array.replicate_zero, List.push_toArray, List.append_toArray, List.nil_append, List.cons_append]
  gi_wp2_with (refine ⟨trivial, ?_⟩; gi_at_call 56; refine (callsIn_wide.2 (AL.out _)).mono ?_; rintro e w2 ⟨rfl, rfl⟩)
  generalize ((w.alloc (.cells #[.int .i64 q0, .int .i64 q1] QTY)).alloc (.cells #[.func (.func fh) #[] ch] HTY)).alloc (.cells #[.slice none 0 0] LTY) = w3 at *
  have b4 := b3.trans ((bel1 w3 (.cells #[Pv] PST)).mono b3.size)
  have t0' := ((bel1 w3 (.cells #[Pv] PST)).block _ (Bx.lt t0)).trans t0
  have t1' := ((bel1 w3 (.cells #[Pv] PST)).block _ (Bx.lt t1)).trans t1
  have t2' := ((bel1 w3 (.cells #[Pv] PST)).block _ (Bx.lt t2)).trans t2
  have t3' := at1 w3 (.cells #[Pv] PST)
  have s4 := size1 w3 (.cells #[Pv] PST)
  rw [s3] at t3' s4
  simp only [Nat.add_assoc, Nat.reduceAdd] at s4 ⊢
  generalize w3.alloc (.cells #[Pv] PST) = w4 at *
  have hI0 : AccI w (w.heap.size + 2) (fK w Pv q0 q1 fh ch) (wants q0 q1 P []) w4 := ⟨b4, by omega, ⟨_, t2', .inl ⟨rfl, rfl⟩⟩, fun x hx => by
    simp only [fK, List.mem_cons, List.not_mem_nil, or_false] at hx
    rcases hx with rfl | rfl | rfl
    · exact ⟨t0', by show QTY ≠ BTY; decide, by simp⟩
    · exact ⟨t1', by show HTY ≠ BTY; decide, by simp⟩
    · exact ⟨by simp only [hPc]; exact t3', by show PST ≠ BTY; decide, by simp⟩⟩
  have hW4 : ∀ {k : Nat} {A : World}, Rg.Turn w4.heap.size A k → w.heap.size + 3 < k ∧ ∃ o, A.heap[k]? = some o ∧ o.isCells = false := fun {k A} h => ⟨by have := h.1; omega, by obtain ⟨o, h1, h2, _⟩ := h.2; exact ⟨o, h1, h2⟩⟩
  have HSEQ := hY w4 (w.heap.size + 3) b4 t3' 8 (by omega)
  have S4 := Lib.hid s4
  clear t0 t1 t2 t0' t1' t2' t3' hY hP b3 s3 AL b4 s4
  refine Rg.range (w := w4) rfl (by omega) (gf := AF) (lb := #[.pointer (some ⟨w.heap.size + 3, 0, none⟩)]) rfl trivial (enters_of Try.func80 (by kernel_rfl) rfl) (encs := encB) (fun _ => rfl) (Kp := Keep fun k => k < w.heap.size ∨ k = w.heap.size + 3) (full := full)
    (fun pre W => AccI w (w.heap.size + 2) (fK w Pv q0 q1 fh ch) (wants q0 q1 P pre) W) (fun _ _ _ => False) (fun x a' V => ∃ b, V.heap[b]? = some (.cells #[.int .i64 x.s, .int .i64 x.i, .int .i64 x.g, .int .i64 x.m, .int .i64 x.x, .int .i64 x.y, .int .i64 x.vx, .int .i64 x.vy, .int .i64 x.h, .int .i64 x.p, .int .i64 x.l] 33 (0, 0)) ∧ a' = actF w Pv q0 q1 fh ch x b)
    (fun h k b hb => (k b hb).trans (h b hb)) (fun xs A B hI hb k hk => hb.block k ?kb) (fun A k o' hT b hb => World.putObj_heap_other (by have := (hW4 hT).1; omega))
    (fun xs A B hI hb => hI.below hb) (fun xs A k o' hT hI => ?ip) (fun c xs A k o' hT hX => hX.elim) (fun x a' A k o' hT hA => ?ap) HSEQ ?assign ?body hI0 ?done ?stop
  case kb =>
    rcases hk with hk | rfl
    · have := hI.bel.size; omega
    · exact Bx.lt (fK_at hI hPc).2.2
  case ip =>
    obtain ⟨h1, o, h2, h3⟩ := hW4 hT
    exact hI.put (by omega) h2 h3
  case ap =>
    obtain ⟨h1, o, h2, h3⟩ := hW4 hT
    obtain ⟨b, e1, e2⟩ := hA
    exact ⟨b, cells_put e1 h2 h3, e2⟩
  case assign =>
    intro l x W K hK
    have HK := Lib.hid (hK (actF w Pv q0 q1 fh ch x W.heap.size) _ (bel1 W (bobj x)) ⟨W.heap.size, at1 W (bobj x), rfl⟩)
    clear hK
    simp only [encB, Bn.val, bobj, actF] at *
    gi_wp2
    exact HK.out
  case body =>
    rintro pre x W a' hI1 hpre ⟨bx, hbx, rfl⟩ ⟨rl, hl⟩ hd
    have hxm := hmay x (hpre.subset (by simp))
    have hlen : (wants q0 q1 P pre).length < 100000 := by
      have h1 := wants_len q0 q1 P pre
      have h2 := hpre.length_le
      simp only [List.length_append, List.length_singleton] at h2
      omega
    have HX := Lib.hid fun V (hV : Below w.heap.size w V) => HHs.out x hxm V hV
    have SN := wants_snoc q0 q1 P pre x
    have HI1 := Lib.hid hI1
    have HD := Lib.hid hd
    have HLp := Lib.hid hl
    have HBX := Lib.hid hbx
    have SAME : Hid ((asks q0 q1 x.m && P x) = false → ∀ V, Below W.heap.size W V → V.heap[w4.heap.size]? = W.heap[w4.heap.size]? ∧ V.heap[w4.heap.size + 1]? = W.heap[w4.heap.size + 1]? ∧ Keep (fun k => k < w.heap.size ∨ k = w.heap.size + 3) W V ∧ AccI w (w.heap.size + 2) (fK w Pv q0 q1 fh ch) (wants q0 q1 P (pre ++ [x])) V) := Lib.hid fun he V hV => by
      refine ⟨hV.block _ (Bx.lt HD.out), hV.block _ (Bx.lt HLp.out), fun k hk => hV.block k ?_, ?_⟩
      · rcases hk with hk | rfl
        · have := HI1.out.bel.size; omega
        · exact Bx.lt (fK_at HI1.out hPc).2.2
      · rw [SN, he]
        exact HI1.out.below hV
    have MORE : Hid ((asks q0 q1 x.m && P x) = true → ∀ U, Below W.heap.size W U → ∃ A c, U.cell? ⟨w.heap.size + 2, 0, none⟩ = some (.slice A (wants q0 q1 P pre).length c) ∧ ∃ A' n' c' V, (Builtin.append_ #[LTY, LTY] LTY #[.slice A (wants q0 q1 P pre).length c, .slice (some ⟨U.heap.size, 0, none⟩) 1 1]).run Try.prog (U.alloc (bobj x)) = .ok (.slice A' n' c') V ∧
        V.cell? ⟨w.heap.size + 2, 0, none⟩ = some (.slice A (wants q0 q1 P pre).length c) ∧ V.frozen? ⟨w.heap.size + 2, 0, none⟩ = false ∧
        Hid ((V.setCell ⟨w.heap.size + 2, 0, none⟩ (.slice A' n' c')).heap[w4.heap.size]? = W.heap[w4.heap.size]? ∧ (V.setCell ⟨w.heap.size + 2, 0, none⟩ (.slice A' n' c')).heap[w4.heap.size + 1]? = W.heap[w4.heap.size + 1]? ∧ Keep (fun k => k < w.heap.size ∨ k = w.heap.size + 3) W (V.setCell ⟨w.heap.size + 2, 0, none⟩ (.slice A' n' c')) ∧ AccI w (w.heap.size + 2) (fK w Pv q0 q1 fh ch) (wants q0 q1 P (pre ++ [x])) (V.setCell ⟨w.heap.size + 2, 0, none⟩ (.slice A' n' c')))) := Lib.hid fun he U hU => by
      obtain ⟨A, c, k1, A', n', c', V, hr, k2, k3, FX⟩ := (HI1.out.below hU).step x hlen
      refine ⟨A, c, k1, A', n', c', V, hr, k2, k3, Lib.hid ⟨?_, ?_, fun k hk => ?_, ?_⟩⟩
      · exact (FX.out.2.2.1 _ _ ((hU.block _ (Bx.lt HD.out)).trans HD.out) rfl).trans (hU.block _ (Bx.lt HD.out))
      · exact (FX.out.2.2.1 _ _ ((hU.block _ (Bx.lt HLp.out)).trans HLp.out) rfl).trans (hU.block _ (Bx.lt HLp.out))
      · have hkl : k < W.heap.size := by
          rcases hk with hk | rfl
          · have := HI1.out.bel.size; omega
          · exact Bx.lt (fK_at HI1.out hPc).2.2
        refine (FX.out.2.1 k ?_).trans (hU.block k hkl)
        rcases hk with hk | rfl
        · exact .inl hk
        · exact .inr ⟨_, .tail _ (.tail _ (.head _)), rfl⟩
      · rw [SN, he]
        exact FX.out.1
    obtain ⟨c0, c1⟩ := (Bx.b2 (fK_at hI1 hPc).1).1
    have ch0 := (Bx.b1 (fK_at hI1 hPc).2.1).1
    obtain ⟨k0, k1, k2, k3, k4, k5, k6, k7, k8, k9, k10⟩ := (Bx.b11 hbx).1
    have FXC : Hid (∀ V, Below W.heap.size W V → V.cell? ⟨w.heap.size + 1, 0, none⟩ = some (.func (.func fh) #[] ch) ∧ (V.cell? ⟨bx, 0, none⟩ = some (.int .i64 x.s) ∧ V.cell? ⟨bx, 1, none⟩ = some (.int .i64 x.i) ∧ V.cell? ⟨bx, 2, none⟩ = some (.int .i64 x.g) ∧ V.cell? ⟨bx, 3, none⟩ = some (.int .i64 x.m) ∧ V.cell? ⟨bx, 4, none⟩ = some (.int .i64 x.x) ∧ V.cell? ⟨bx, 5, none⟩ = some (.int .i64 x.y) ∧ V.cell? ⟨bx, 6, none⟩ = some (.int .i64 x.vx) ∧ V.cell? ⟨bx, 7, none⟩ = some (.int .i64 x.vy) ∧ V.cell? ⟨bx, 8, none⟩ = some (.int .i64 x.h) ∧ V.cell? ⟨bx, 9, none⟩ = some (.int .i64 x.p) ∧ V.cell? ⟨bx, 10, none⟩ = some (.int .i64 x.l))) := Lib.hid fun V hV => ⟨(Bx.b1 (fK_at (HI1.out.below hV) hPc).2.1).1, (Bx.b11 ((hV.block _ (Bx.lt HBX.out)).trans HBX.out)).1⟩
    have BW : Hid (∀ V, Below W.heap.size W V → Below w.heap.size w V) := Lib.hid fun V hV => HI1.out.bel.trans (hV.mono HI1.out.bel.size)
    clear hI1 hpre HSEQ hI0 hW4 hbx hl hd HI1 HD HLp HBX SN hlen hxm hmay HHs
    have MX := Lib.hid (MT.out x.m)
    obtain ⟨ta, hta⟩ : ∃ ta, asks q0 q1 x.m = ta := ⟨_, rfl⟩
    obtain ⟨tp, htp⟩ : ∃ tp, P x = tp := ⟨_, rfl⟩
    rw [hta] at MX SAME MORE
    rw [htp] at HX SAME MORE
    clear hta htp MT
    obtain ⟨xs, xi, xg, xm, xx, xY, xvx, xvy, xh, xp, xl⟩ := x
    simp only [actF, Bn.val, bobj] at *
    cases ta with
    | false =>
      have SM := Lib.hid (SAME.out rfl)
      clear SAME MORE HX
      gi_wp2_with (refine ⟨trivial, ?_⟩; gi_at_call 25; refine (CallsIn.inRound (w4.heap.size + 1) (callsIn_wide.2 (MX.out _))).mono ?_; rintro e w5 ⟨rfl, b5⟩)
      refine ⟨fun f hf => (by cases hf), ?_⟩
      rename_i hKK x9 h9 w9 heq9
      refine hKK _ _ ?_
      clear hKK heq9
      gi_wp2
      exact SM.out _ b5
    | true =>
      cases tp with
      | false =>
        have SM := Lib.hid (SAME.out rfl)
        clear SAME MORE
        gi_wp2_with (first
          | (refine ⟨trivial, ?_⟩; gi_at_call 25; refine (CallsIn.inRound (w4.heap.size + 1) (callsIn_wide.2 (MX.out _))).mono ?_; rintro e w5 ⟨rfl, b5⟩; clear k0 k1 k2 k3 k4 k5 k6 k7 k8 k9 k10 ch0; obtain ⟨ch0, k0, k1, k2, k3, k4, k5, k6, k7, k8, k9, k10⟩ := FXC.out _ b5; have HX5 := HX.out _ (BW.out _ b5); clear HX MX)
          | (refine ⟨trivial, ?_⟩; refine (CallsIn.inRound (w4.heap.size + 1) (callsIn_wide.2 HX5)).mono ?_; rintro e w6 ⟨rfl, b6⟩; have b7 := b5.trans (b6.mono b5.size); clear HX5))
        exact SM.out _ b7
      | true =>
        have MR := Lib.hid (MORE.out rfl)
        clear SAME MORE
        gi_wp2_with (first
          | (refine ⟨trivial, ?_⟩; gi_at_call 25; refine (CallsIn.inRound (w4.heap.size + 1) (callsIn_wide.2 (MX.out _))).mono ?_; rintro e w5 ⟨rfl, b5⟩; clear k0 k1 k2 k3 k4 k5 k6 k7 k8 k9 k10 ch0; obtain ⟨ch0, k0, k1, k2, k3, k4, k5, k6, k7, k8, k9, k10⟩ := FXC.out _ b5; have HX5 := HX.out _ (BW.out _ b5); clear HX MX)
          | (refine ⟨trivial, ?_⟩; refine (CallsIn.inRound (w4.heap.size + 1) (callsIn_wide.2 HX5)).mono ?_; rintro e w6 ⟨rfl, b6⟩; have b7 := b5.trans (b6.mono b5.size); clear HX5 k0 k1 k2 k3 k4 k5 k6 k7 k8 k9 k10 ch0; obtain ⟨ch0, k0, k1, k2, k3, k4, k5, k6, k7, k8, k9, k10⟩ := FXC.out _ b7; obtain ⟨A, c, kl, A', n', c', V, hr, hc4, hf4, FIN⟩ := MR.out _ b7; have HR := Lib.hid hr; clear hr MR)
          | (gi_at_builtin; refine wpListIn_append rfl (.tmp 21) (.tmp 23) _ _ rfl _ _ rfl rfl _ _ HR.out ?_))
        exact FIN.out
  case done =>
    intro W hI hd
    obtain ⟨v, e1, e2⟩ := hI.bl
    obtain ⟨A, c, rfl⟩ := e2.form
    have kl := (Bx.b1 e1).1
    have SO := sorted_any (cap := c) (RdB.of_own e2) (Nat.le_trans (wants_len q0 q1 P full) (by omega))
    have HK : Hid (∀ V, Below W.heap.size W V → V.heap[w4.heap.size]? = some (.deferred (some []))) := Lib.hid fun V hV => (hV.block _ (Bx.lt hd)).trans hd
    have FX : Hid (∀ A' c' V, OwnB V W.heap.size (.slice A' (wants q0 q1 P full).length c') (sortL Bn.id (wants q0 q1 P full)) → Below W.heap.size W V → OwnB (V.putObj w4.heap.size (.deferred none)) w.heap.size (.slice A' (wants q0 q1 P full).length c') (sortL Bn.id (wants q0 q1 P full)) ∧ Below w.heap.size w (V.putObj w4.heap.size (.deferred none))) := Lib.hid fun A' c' V ho hb => ⟨own_put (ho.base hI.bel.size) (HK.out V hb) rfl, below_put (hI.bel.trans (hb.mono hI.bel.size)) (by have := S4.out; omega)⟩
    have SO2 := Lib.hid SO
    clear hI e1 e2 hd HSEQ hI0 hW4 SO hmay HHs EG MT
    gi_wp2_with (refine ⟨trivial, ?_⟩; gi_at_call 82; refine (callsIn_wide.2 SO2.out).mono ?_; rintro e w5 ⟨⟨A', c', rfl, ho⟩, hb⟩)
    refine ⟨by simp, .inl ⟨_, _, rfl, run_takeDeferred (HK.out _ hb), ?_⟩⟩
    exact ⟨_, results_tmp rfl _ _ _, A', c', by simp, FX.out _ _ _ ho hb⟩
  case stop =>
    rintro c pre W hX hd
    exact hX.elim
end Go.Proofs.Ytgmgenggboicnaa
namespace Go.Proofs.Ytgmgenggboicnaa
open Go.RowKit Go.Shelf Pz Ar Qu
set_option linter.unusedVariables false
set_option linter.unusedSimpArgs false

theorem may_fits {x : Bn} (h : may x = true) : (-1073741824 ≤ x.x ∧ x.x ≤ 1073741824) ∧ (-1073741824 ≤ x.y ∧ x.y ≤ 1073741824) := by
  unfold may right inB at h
  simp only [Bool.and_eq_true, Bool.or_eq_true, Bool.not_eq_true', decide_eq_true_eq] at h
  obtain ⟨⟨_, hr⟩, h0⟩ := h
  rw [h0] at hr
  simp only [if_true, Bool.and_eq_true, decide_eq_true_eq] at hr
  omega
theorem may_I {x : Bn} (h : may x = true) : I x.x ∧ I x.y := by
  have := may_fits h
  unfold I
  omega
set_option maxHeartbeats 4000000 in
set_option maxRecDepth 100000 in
theorem any_hold (B : Nat) (w : World) : HoldAt (fun _ => true) 61 #[] B w :=
  ⟨enters_of Try.func61 (by kernel_rfl) rfl, fun x hx W hW => by
    have BE := Lib.hid (bel1 W (bobj x))
    obtain ⟨xs, xi, xg, xm, xx, xY, xvx, xvy, xh, xp, xl⟩ := x
    simp only [Bn.val, bobj] at *
    show Calls Try.prog 61 #[.agg #[.int .i64 xs, .int .i64 xi, .int .i64 xg, .int .i64 xm, .int .i64 xx, .int .i64 xY, .int .i64 xvx, .int .i64 xvy, .int .i64 xh, .int .i64 xp, .int .i64 xl]] W _
    go_enter Try.func61, Try.ntmps61
    go_wp2
    go_ret
    exact ⟨rfl, BE.out⟩⟩
abbrev RTY : TypeId := 64
set_option maxHeartbeats 4000000 in
set_option maxRecDepth 100000 in
theorem within_hold {w : World} {rb : Nat} {a b c d : Int} (h : w.heap[rb]? = some (.cells #[.int .i64 a, .int .i64 b, .int .i64 c, .int .i64 d] RTY (0, 0))) (ha : I a) (hb : I b) (hc : I c) (hd : I d) :
    HoldAt (fun x => Rc.hasR a b c d x.x x.y) 62 #[.pointer (some ⟨rb, 0, none⟩)] w.heap.size w :=
  ⟨enters_of Try.func62 (by kernel_rfl) rfl, fun x hx W hW => by
    obtain ⟨hi1, hi2⟩ := may_I hx
    have HC := Lib.hid fun V => rchas_any a b c d x.x x.y V ha hb hc hd hi1 hi2
    rw [has_same] at HC
    generalize Rc.hasR a b c d x.x x.y = r at *
    have BE := Lib.hid (bel1 W (bobj x))
    have hr := (hW.block _ (Bx.lt h)).trans h
    obtain ⟨⟨c0, c1, c2, c3⟩, _⟩ := box4 (((bel1 W (bobj x)).block _ (Bx.lt hr)).trans hr)
    obtain ⟨⟨k0, k1, k2, k3, k4, k5, k6, k7, k8, k9, k10⟩, _⟩ := Bx.b11 (at1 W (bobj x))
    clear hi1 hi2 hr h hW ha hb hc hd hx
    obtain ⟨xs, xi, xg, xm, xx, xY, xvx, xvy, xh, xp, xl⟩ := x
    simp only [Bn.val, bobj] at *
    show Calls Try.prog 62 #[.agg #[.int .i64 xs, .int .i64 xi, .int .i64 xg, .int .i64 xm, .int .i64 xx, .int .i64 xY, .int .i64 xvx, .int .i64 xvy, .int .i64 xh, .int .i64 xp, .int .i64 xl], .pointer (some ⟨rb, 0, none⟩)] W _
    go_enter Try.func62, Try.ntmps62
    go_wp2_with (go_at_call 63; refine (HC.out _).mono ?_; rintro e w5 ⟨rfl, b5⟩)
    go_ret
    exact ⟨rfl, BE.out.trans (b5.mono BE.out.size)⟩⟩
/-- a function value that is kept in a box -/
abbrev FTY : TypeId := 106
abbrev farF (px py : Nat) : Value := .func (.func 65) #[] #[.pointer (some ⟨px, 0, none⟩), .pointer (some ⟨py, 0, none⟩)]
set_option maxHeartbeats 4000000 in
set_option maxRecDepth 100000 in
theorem near1_any {W : World} {px py : Nat} {X Y : Int} (hx : W.heap[px]? = some (.cells #[.int .i64 X] 3 (0, 0))) (hy : W.heap[py]? = some (.cells #[.int .i64 Y] 3 (0, 0))) (x : Bn) :
    Calls Try.prog 65 #[x.val, .pointer (some ⟨px, 0, none⟩), .pointer (some ⟨py, 0, none⟩)] W fun e V => e = .returned (.int .i64 (Rc.far x.x x.y X Y)) ∧ Below W.heap.size W V := by
  have HC := Lib.hid fun V => far_all x.x x.y X Y V
  generalize Rc.far x.x x.y X Y = r at *
  have BE := Lib.hid (bel1 W (bobj x))
  have c0 := (Bx.b1 (((bel1 W (bobj x)).block _ (Bx.lt hx)).trans hx)).1
  have c1 := (Bx.b1 (((bel1 W (bobj x)).block _ (Bx.lt hy)).trans hy)).1
  obtain ⟨⟨k0, k1, k2, k3, k4, k5, k6, k7, k8, k9, k10⟩, _⟩ := Bx.b11 (at1 W (bobj x))
  clear hx hy
  obtain ⟨xs, xi, xg, xm, xx, xY, xvx, xvy, xh, xp, xl⟩ := x
  simp only [Bn.val, bobj] at *
  go_enter Try.func65, Try.ntmps65
  go_wp2_with (go_at_call 66; refine (HC.out _).mono ?_; rintro e w5 ⟨rfl, rfl⟩)
  go_ret
  exact ⟨rfl, BE.out⟩
theorem enters65 : ∀ args w, (callFunc 65 args).run Try.prog w = .ok (.enter 65 args) w := enters_of Try.func65 (by kernel_rfl) rfl
set_option maxHeartbeats 8000000 in
set_option maxRecDepth 100000 in
theorem near_hold {w : World} {pf pd px py : Nat} {X Y D : Int} (hf : w.heap[pf]? = some (.cells #[farF px py] FTY (0, 0))) (hd : w.heap[pd]? = some (.cells #[.int .i64 D] 3 (0, 0))) (hx : w.heap[px]? = some (.cells #[.int .i64 X] 3 (0, 0))) (hy : w.heap[py]? = some (.cells #[.int .i64 Y] 3 (0, 0))) :
    HoldAt (fun x => decide (Rc.far x.x x.y X Y ≤ D)) 67 #[.pointer (some ⟨pf, 0, none⟩), .pointer (some ⟨pd, 0, none⟩)] w.heap.size w :=
  ⟨enters_of Try.func67 (by kernel_rfl) rfl, fun x hm W hW => by
    have hW1 := hW.trans ((bel1 W (bobj x)).mono hW.size)
    have EG := enters65
    have NR : Hid (∀ p : Lat grows (W.alloc (bobj x)), Calls Try.prog 65 #[x.val, .pointer (some ⟨px, 0, none⟩), .pointer (some ⟨py, 0, none⟩)] p.W fun e V => e = .returned (.int .i64 (Rc.far x.x x.y X Y)) ∧ Below p.W.heap.size p.W V) := Lib.hid fun p => near1_any (((hW1.trans (p.h.mono hW1.size)).block _ (Bx.lt hx)).trans hx) (((hW1.trans (p.h.mono hW1.size)).block _ (Bx.lt hy)).trans hy) x
    have BE := Lib.hid (bel1 W (bobj x))
    have cf := fun p : Lat grows (W.alloc (bobj x)) => (Bx.b1 (((hW1.trans (p.h.mono hW1.size)).block _ (Bx.lt hf)).trans hf)).1
    have cd := fun p : Lat grows (W.alloc (bobj x)) => (Bx.b1 (((hW1.trans (p.h.mono hW1.size)).block _ (Bx.lt hd)).trans hd)).1
    have HB := fun p : Lat grows (W.alloc (bobj x)) => (Bx.b11 ((p.h.block _ (Bx.lt (at1 W (bobj x)))).trans (at1 W (bobj x)))).1
    have kb0 := fun p => (HB p).1
    have kb1 := fun p => (HB p).2.1
    have kb2 := fun p => (HB p).2.2.1
    have kb3 := fun p => (HB p).2.2.2.1
    have kb4 := fun p => (HB p).2.2.2.2.1
    have kb5 := fun p => (HB p).2.2.2.2.2.1
    have kb6 := fun p => (HB p).2.2.2.2.2.2.1
    have kb7 := fun p => (HB p).2.2.2.2.2.2.2.1
    have kb8 := fun p => (HB p).2.2.2.2.2.2.2.2.1
    have kb9 := fun p => (HB p).2.2.2.2.2.2.2.2.2.1
    have kb10 := fun p => (HB p).2.2.2.2.2.2.2.2.2.2
    clear HB hf hd hx hy hW hW1 hm
    generalize Rc.far x.x x.y X Y = r at *
    obtain ⟨xs, xi, xg, xm, xx, xY, xvx, xvy, xh, xp, xl⟩ := x
    simp only [Bn.val, bobj, farF] at *
    show Calls Try.prog 67 #[.agg #[.int .i64 xs, .int .i64 xi, .int .i64 xg, .int .i64 xm, .int .i64 xx, .int .i64 xY, .int .i64 xvx, .int .i64 xvy, .int .i64 xh, .int .i64 xp, .int .i64 xl], .pointer (some ⟨pf, 0, none⟩), .pointer (some ⟨pd, 0, none⟩)] W _
    go_enter Try.func67, Try.ntmps67
    go_upto_region 1 with fail
    generalize W.alloc (.cells #[.int .i64 xs, .int .i64 xi, .int .i64 xg, .int .i64 xm, .int .i64 xx, .int .i64 xY, .int .i64 xvx, .int .i64 xvy, .int .i64 xh, .int .i64 xp, .int .i64 xl] BTY) = w1 at *
    refine Og.grow 6 (by kernel_rfl) (by kernel_rfl) fun hc hf => ?_
    clear hc hf
    simp only [List.take_succ_cons, List.take_zero, List.drop_succ_cons, List.drop_zero]
    iterate 2 (refine Og.det [] rfl (fun J hJ => ?_); go_simp; refine hJ _ _ ?_; clear hJ J)
    refine Og.det [] rfl (fun J hJ => ?_)
    go_simp
    with_reducible refine ⟨_, fun p => Og.lays (NR.out p), hJ _ _ ?_⟩
    clear hJ J
    iterate 3 (refine Og.det [] rfl (fun J hJ => ?_); go_simp; refine hJ _ _ ?_; clear hJ J)
    refine Og.fin fun V hV => ?_
    simp only [Og.opened_nil]
    have FIN := BE.out.trans (hV.mono BE.out.size)
    clear NR cf cd kb0 kb1 kb2 kb3 kb4 kb5 kb6 kb7 kb8 kb9 kb10 hV
    go_wp2
    go_ret
    exact ⟨rfl, FIN⟩⟩
theorem cmpB_one (a b : Int) : cmpB (a, 0, 0) (b, 0, 0) = cmpI a b := by
  unfold cmpB orI
  simp only
  have h0 : cmpI 0 0 = 0 := rfl
  rw [h0]
  split
  · rfl
  · rename_i h
    have : cmpI a b = 0 := Classical.not_not.1 h
    rw [this]; rfl
def farK (X Y : Int) (x : Bn) : K3 := (Rc.far x.x x.y X Y, 0, 0)
set_option maxHeartbeats 8000000 in
set_option maxRecDepth 100000 in
theorem near_cmp {w : World} {pf px py : Nat} {X Y : Int} (hf : w.heap[pf]? = some (.cells #[farF px py] FTY (0, 0))) (hx : w.heap[px]? = some (.cells #[.int .i64 X] 3 (0, 0))) (hy : w.heap[py]? = some (.cells #[.int .i64 Y] 3 (0, 0))) :
    CmpAt (farK X Y) 69 #[.pointer (some ⟨pf, 0, none⟩)] w.heap.size w :=
  ⟨enters_of Try.func69 (by kernel_rfl) rfl, fun x y W hW => by
    have b2 := bel2 W (bobj x) (bobj y)
    have hW1 := hW.trans (b2.mono hW.size)
    have EG := enters65
    have ha := at2a W (bobj x) (bobj y)
    have hb := at2b W (bobj x) (bobj y)
    have BE := Lib.hid b2
    unfold farK
    rw [cmpB_one]
    generalize hw1 : (W.alloc (bobj x)).alloc (bobj y) = w1 at *
    have NX : Hid (∀ p : Lat grows w1, Calls Try.prog 65 #[x.val, .pointer (some ⟨px, 0, none⟩), .pointer (some ⟨py, 0, none⟩)] p.W fun e V => e = .returned (.int .i64 (Rc.far x.x x.y X Y)) ∧ Below p.W.heap.size p.W V) := Lib.hid fun p => near1_any (((hW1.trans (p.h.mono hW1.size)).block _ (Bx.lt hx)).trans hx) (((hW1.trans (p.h.mono hW1.size)).block _ (Bx.lt hy)).trans hy) x
    have NY : Hid (∀ p : Lat grows w1, Calls Try.prog 65 #[y.val, .pointer (some ⟨px, 0, none⟩), .pointer (some ⟨py, 0, none⟩)] p.W fun e V => e = .returned (.int .i64 (Rc.far y.x y.y X Y)) ∧ Below p.W.heap.size p.W V) := Lib.hid fun p => near1_any (((hW1.trans (p.h.mono hW1.size)).block _ (Bx.lt hx)).trans hx) (((hW1.trans (p.h.mono hW1.size)).block _ (Bx.lt hy)).trans hy) y
    have cf := fun p : Lat grows w1 => (Bx.b1 (((hW1.trans (p.h.mono hW1.size)).block _ (Bx.lt hf)).trans hf)).1
    have HB := fun p : Lat grows w1 => (Bx.b11 ((p.h.block _ (Bx.lt ha)).trans ha)).1
    have kb0 := fun p => (HB p).1
    have kb1 := fun p => (HB p).2.1
    have kb2 := fun p => (HB p).2.2.1
    have kb3 := fun p => (HB p).2.2.2.1
    have kb4 := fun p => (HB p).2.2.2.2.1
    have kb5 := fun p => (HB p).2.2.2.2.2.1
    have kb6 := fun p => (HB p).2.2.2.2.2.2.1
    have kb7 := fun p => (HB p).2.2.2.2.2.2.2.1
    have kb8 := fun p => (HB p).2.2.2.2.2.2.2.2.1
    have kb9 := fun p => (HB p).2.2.2.2.2.2.2.2.2.1
    have kb10 := fun p => (HB p).2.2.2.2.2.2.2.2.2.2
    have HD := fun p : Lat grows w1 => (Bx.b11 ((p.h.block _ (Bx.lt hb)).trans hb)).1
    have kd0 := fun p => (HD p).1
    have kd1 := fun p => (HD p).2.1
    have kd2 := fun p => (HD p).2.2.1
    have kd3 := fun p => (HD p).2.2.2.1
    have kd4 := fun p => (HD p).2.2.2.2.1
    have kd5 := fun p => (HD p).2.2.2.2.2.1
    have kd6 := fun p => (HD p).2.2.2.2.2.2.1
    have kd7 := fun p => (HD p).2.2.2.2.2.2.2.1
    have kd8 := fun p => (HD p).2.2.2.2.2.2.2.2.1
    have kd9 := fun p => (HD p).2.2.2.2.2.2.2.2.2.1
    have kd10 := fun p => (HD p).2.2.2.2.2.2.2.2.2.2
    clear HB HD hf hx hy hW hW1 b2 ha hb
    generalize Rc.far x.x x.y X Y = r1 at *
    generalize Rc.far y.x y.y X Y = r2 at *
    have CI := Lib.hid fun V => cmpi_any r1 r2 V
    generalize cmpI r1 r2 = rr at *
    obtain ⟨xs, xi, xg, xm, xx, xY, xvx, xvy, xh, xp, xl⟩ := x
    obtain ⟨ys, yi, yg, ym, yx, yY, yvx, yvy, yh, yp, yl⟩ := y
    simp only [Bn.val, bobj, farF] at *
    show Calls Try.prog 69 #[.agg #[.int .i64 xs, .int .i64 xi, .int .i64 xg, .int .i64 xm, .int .i64 xx, .int .i64 xY, .int .i64 xvx, .int .i64 xvy, .int .i64 xh, .int .i64 xp, .int .i64 xl], .agg #[.int .i64 ys, .int .i64 yi, .int .i64 yg, .int .i64 ym, .int .i64 yx, .int .i64 yY, .int .i64 yvx, .int .i64 yvy, .int .i64 yh, .int .i64 yp, .int .i64 yl], .pointer (some ⟨pf, 0, none⟩)] W _
    go_enter Try.func69, Try.ntmps69
    go_upto_region 1 with fail
    try rw [hw1]
    clear hw1
    refine Og.grow 8 (by kernel_rfl) (by kernel_rfl) fun hc hf => ?_
    clear hc hf
    simp only [List.take_succ_cons, List.take_zero, List.drop_succ_cons, List.drop_zero]
    iterate 2 (refine Og.det [] rfl (fun J hJ => ?_); go_simp; refine hJ _ _ ?_; clear hJ J)
    refine Og.det [] rfl (fun J hJ => ?_)
    go_simp
    with_reducible refine ⟨_, fun p => Og.lays (NX.out p), hJ _ _ ?_⟩
    clear hJ J
    iterate 2 (refine Og.det [] rfl (fun J hJ => ?_); go_simp; refine hJ _ _ ?_; clear hJ J)
    refine Og.det [] rfl (fun J hJ => ?_)
    go_simp
    with_reducible refine ⟨_, fun p => Og.lays (NY.out p), hJ _ _ ?_⟩
    clear hJ J
    refine Og.det [] rfl (fun J hJ => ?_)
    go_simp
    with_reducible refine ⟨_, fun p => Og.same (CI.out p.W), hJ _ _ ?_⟩
    clear hJ J
    refine Og.det [] rfl (fun J hJ => ?_); go_simp; refine hJ _ _ ?_; clear hJ J
    refine Og.fin fun V hV => ?_
    simp only [Og.opened_nil]
    have FIN := BE.out.trans (hV.mono BE.out.size)
    clear NX NY CI cf kb0 kb1 kb2 kb3 kb4 kb5 kb6 kb7 kb8 kb9 kb10 kd0 kd1 kd2 kd3 kd4 kd5 kd6 kd7 kd8 kd9 kd10 hV
    go_wp2
    go_ret
    exact ⟨rfl, FIN⟩⟩
end Go.Proofs.Ytgmgenggboicnaa
namespace Go.Proofs.Ytgmgenggboicnaa
open Go.RowKit Go.Shelf Pz Ar Qu
set_option linter.unusedVariables false
set_option linter.unusedSimpArgs false

/-- what the code tells: of a list that is yielded those that are asked for and of which something holds, by their names -/
def told (q0 q1 : Int) (P : Bn → Bool) (full : List Bn) : List Bn := sortL Bn.id (wants q0 q1 P full)
theorem told_len (q0 q1 : Int) (P : Bn → Bool) (full : List Bn) : (told q0 q1 P full).length = (wants q0 q1 P full).length := sort_len _ _
theorem told_le (q0 q1 : Int) (P : Bn → Bool) (full : List Bn) : (told q0 q1 P full).length ≤ full.length := by rw [told_len]; exact wants_len q0 q1 P full
/-- a store, or none, that yields a list, from a world on -/
structure Src (Pv : Value) (full : List Bn) (w : World) : Prop where
  y : Yields Pv full w
  p : Pv = .pointer none ∨ ∃ p, Pv = .pointer (some ⟨p, 0, none⟩)
  few : full.length ≤ 10000
  may : ∀ x ∈ full, may x = true
theorem Src.below {Pv : Value} {full : List Bn} {w W : World} (h : ∀ V, Below w.heap.size w V → Src Pv full V) (hb : Below w.heap.size w W) : Src Pv full W := h W hb
theorem CS.src {F : Foot} {p : Nat} {t : Tb} {w : World} (h : CS F p t w) (hl : total t ≤ 10000) : Src (.pointer (some ⟨p, 0, none⟩)) (all t) w :=
  ⟨h.yields, .inr ⟨p, rfl⟩, by rw [total_all]; exact hl, (all_ok h.good).may⟩
theorem nil_src (w : World) : Src (.pointer none) [] w := ⟨nil_yields w, .inl rfl, by simp, fun x hx => by cases hx⟩
theorem find_told {w : World} {Pv : Value} {full : List Bn} (S : Src Pv full w) {P : Bn → Bool} {fh : Nat} {ch : Array Value} (HH : HoldAt P fh ch w.heap.size w) (q0 q1 : Int) :
    Calls Try.prog 60 #[Pv, qV q0 q1, .func (.func fh) #[] ch] w fun e w' => ∃ A c, e = .returned (.slice A (told q0 q1 P full).length c) ∧ OwnB w' w.heap.size (.slice A (told q0 q1 P full).length c) (told q0 q1 P full) ∧ Below w.heap.size w w' := by
  have := find_of S.y S.p (Nat.le_trans S.few (by decide)) S.may HH q0 q1
  rwa [← told_len] at this
abbrev yes : Bn → Bool := fun _ => true
set_option maxHeartbeats 8000000 in
set_option maxRecDepth 100000 in
theorem qids_any {w : World} {Pv : Value} {full : List Bn} (HS : ∀ V, Below w.heap.size w V → Src Pv full V) (q0 q1 : Int) :
    Calls Try.prog 34 #[Pv, qV q0 q1] w fun e w' => ∃ A c, e = .returned (.slice A ((told q0 q1 yes full).map Bn.id).length c) ∧ OwnI w' w.heap.size (.slice A ((told q0 q1 yes full).map Bn.id).length c) ((told q0 q1 yes full).map Bn.id) ∧ Below w.heap.size w w' := by
  have BE := bel1 w (.cells #[.int .i64 q0, .int .i64 q1] QTY)
  obtain ⟨⟨k0, k1⟩, _⟩ := Bx.b2 (at1 w (.cells #[.int .i64 q0, .int .i64 q1] QTY))
  have FN := Lib.hid (find_told (HS _ BE) (any_hold _ _) q0 q1)
  have hn : (told q0 q1 yes full).length ≤ 100000 := Nat.le_trans (told_le _ _ _ _) (Nat.le_trans (HS _ (Below.refl _ _)).few (by decide))
  have NM := Lib.hid fun (A : Option Addr) c V (h : RdB V V.heap.size A (told q0 q1 yes full)) => qnames_any (c := c) h hn
  clear HS hn
  generalize told q0 q1 yes full = G at *
  go_enter Try.func34, Try.ntmps34
  go_wp2_with (first
    | (go_at_call 60; refine FN.out.mono ?_; rintro e w2 ⟨A2, c2, rfl, o2, b2⟩; have NM2 := Lib.hid (NM.out A2 c2 w2 (RdB.of_own o2)); have B2 := BE.trans (b2.mono BE.size); clear FN NM o2 b2)
    | (go_at_call 59; refine NM2.out.mono ?_; rintro e w3 ⟨A3, c3, rfl, o3, b3⟩; clear NM2))
  go_ret
  exact ⟨A3, c3, by simp, o3.base B2.size, B2.trans (b3.mono B2.size)⟩
set_option maxHeartbeats 8000000 in
set_option maxRecDepth 100000 in
theorem qwithin_any {w : World} {Pv : Value} {full : List Bn} (HS : ∀ V, Below w.heap.size w V → Src Pv full V) (q0 q1 : Int) {a b c d : Int} (ha : I a) (hb : I b) (hc : I c) (hd : I d) :
    Calls Try.prog 39 #[Pv, qV q0 q1, .agg #[.int .i64 a, .int .i64 b, .int .i64 c, .int .i64 d]] w fun e w' => ∃ A c', e = .returned (.slice A ((told q0 q1 (fun x => Rc.hasR a b c d x.x x.y) full).map Bn.id).length c') ∧ OwnI w' w.heap.size (.slice A ((told q0 q1 (fun x => Rc.hasR a b c d x.x x.y) full).map Bn.id).length c') ((told q0 q1 (fun x => Rc.hasR a b c d x.x x.y) full).map Bn.id) ∧ Below w.heap.size w w' := by
  have BE := bel2 w (.cells #[.int .i64 q0, .int .i64 q1] QTY) (.cells #[.int .i64 a, .int .i64 b, .int .i64 c, .int .i64 d] RTY)
  obtain ⟨⟨k0, k1⟩, _⟩ := Bx.b2 (at2a w (.cells #[.int .i64 q0, .int .i64 q1] QTY) (.cells #[.int .i64 a, .int .i64 b, .int .i64 c, .int .i64 d] RTY))
  have FN := Lib.hid (find_told (HS _ BE) (within_hold (at2b w (.cells #[.int .i64 q0, .int .i64 q1] QTY) (.cells #[.int .i64 a, .int .i64 b, .int .i64 c, .int .i64 d] RTY)) ha hb hc hd) q0 q1)
  generalize (fun x : Bn => Rc.hasR a b c d x.x x.y) = P at *
  have hn : (told q0 q1 P full).length ≤ 100000 := Nat.le_trans (told_le _ _ _ _) (Nat.le_trans (HS _ (Below.refl _ _)).few (by decide))
  have NM := Lib.hid fun (A : Option Addr) c V (h : RdB V V.heap.size A (told q0 q1 P full)) => qnames_any (c := c) h hn
  clear HS hn ha hb hc hd
  generalize told q0 q1 P full = G at *
  go_enter Try.func39, Try.ntmps39
  go_wp2_with (first
    | (go_at_call 60; refine FN.out.mono ?_; rintro e w2 ⟨A2, c2, rfl, o2, b2⟩; have NM2 := Lib.hid (NM.out A2 c2 w2 (RdB.of_own o2)); have B2 := BE.trans (b2.mono BE.size); clear FN NM o2 b2)
    | (go_at_call 59; refine NM2.out.mono ?_; rintro e w3 ⟨A3, c3, rfl, o3, b3⟩; clear NM2))
  go_ret
  exact ⟨A3, c3, by simp, o3.base B2.size, B2.trans (b3.mono B2.size)⟩
/-- those that are near, the nearest first -/
def nears (q0 q1 X Y D : Int) (full : List Bn) : List Bn := sortL (farK X Y) (told q0 q1 (fun x => decide (Rc.far x.x x.y X Y ≤ D)) full)
theorem nears_len (q0 q1 X Y D : Int) (full : List Bn) : (nears q0 q1 X Y D full).length = (told q0 q1 (fun x => decide (Rc.far x.x x.y X Y ≤ D)) full).length := sort_len _ _
set_option maxHeartbeats 8000000 in
set_option maxRecDepth 100000 in
theorem qnear_any {w : World} {Pv : Value} {full : List Bn} (HS : ∀ V, Below w.heap.size w V → Src Pv full V) (q0 q1 X Y D : Int) :
    Calls Try.prog 41 #[Pv, qV q0 q1, .int .i64 X, .int .i64 Y, .int .i64 D] w fun e w' => ∃ A c', e = .returned (.slice A ((nears q0 q1 X Y D full).map Bn.id).length c') ∧ OwnI w' w.heap.size (.slice A ((nears q0 q1 X Y D full).map Bn.id).length c') ((nears q0 q1 X Y D full).map Bn.id) ∧ Below w.heap.size w w' := by
  unfold nears
  obtain ⟨P, hP⟩ : ∃ P : Bn → Bool, P = fun x : Bn => decide (Rc.far x.x x.y X Y ≤ D) := ⟨_, rfl⟩
  rw [← hP]
  have b4 := (bel3 w (.cells #[.int .i64 q0, .int .i64 q1] QTY) (.cells #[.int .i64 X] 3) (.cells #[.int .i64 Y] 3))
  have s3 := size3 w (.cells #[.int .i64 q0, .int .i64 q1] QTY) (.cells #[.int .i64 X] 3) (.cells #[.int .i64 Y] 3)
  have m0 := at3a w (.cells #[.int .i64 q0, .int .i64 q1] QTY) (.cells #[.int .i64 X] 3) (.cells #[.int .i64 Y] 3)
  have m1 := at3b w (.cells #[.int .i64 q0, .int .i64 q1] QTY) (.cells #[.int .i64 X] 3) (.cells #[.int .i64 Y] 3)
  have m2 := at3c w (.cells #[.int .i64 q0, .int .i64 q1] QTY) (.cells #[.int .i64 X] 3) (.cells #[.int .i64 Y] 3)
  go_enter Try.func41, Try.ntmps41
  go_upto_region 2 with fail
  generalize ((w.alloc (.cells #[.int .i64 q0, .int .i64 q1] QTY)).alloc (.cells #[.int .i64 X] 3)).alloc (.cells #[.int .i64 Y] 3) = w3 at *
  have b5 := bel2 w3 (.cells #[.int .i64 D] 3) (.cells #[farF (w.heap.size + 1) (w.heap.size + 2)] FTY)
  have n3 := at2a w3 (.cells #[.int .i64 D] 3) (.cells #[farF (w.heap.size + 1) (w.heap.size + 2)] FTY)
  have n4 := at2b w3 (.cells #[.int .i64 D] 3) (.cells #[farF (w.heap.size + 1) (w.heap.size + 2)] FTY)
  rw [s3] at n3 n4
  have n0 := (b5.block _ (Bx.lt m0)).trans m0
  have n1 := (b5.block _ (Bx.lt m1)).trans m1
  have n2 := (b5.block _ (Bx.lt m2)).trans m2
  have NB := b4.trans (b5.mono b4.size)
  simp only [Nat.add_assoc, Nat.reduceAdd] at n3 n4 ⊢
  clear m0 m1 m2 b4 b5
  generalize (w3.alloc (.cells #[.int .i64 D] 3)).alloc (.cells #[farF (w.heap.size + 1) (w.heap.size + 2)] FTY) = w5 at *
  have FN := find_told (HS _ NB) (near_hold n4 n3 n1 n2) q0 q1
  rw [← hP] at FN
  replace FN := Lib.hid FN
  have CM := Lib.hid (near_cmp n4 n1 n2)
  have hn : (told q0 q1 P full).length ≤ 100000 := Nat.le_trans (told_le _ _ _ _) (Nat.le_trans (HS _ (Below.refl _ _)).few (by decide))
  have hn2 : (sortL (farK X Y) (told q0 q1 P full)).length = (told q0 q1 P full).length := sort_len _ _
  have NM : Hid (∀ (A : Option Addr) (c : Nat) V, OwnB V w5.heap.size (.slice A (told q0 q1 P full).length c) (sortL (farK X Y) (told q0 q1 P full)) → Calls Try.prog 59 #[.slice A (told q0 q1 P full).length c] V fun e w' => ∃ A' c', e = .returned (.slice A' ((sortL (farK X Y) (told q0 q1 P full)).map Bn.id).length c') ∧ OwnI w' V.heap.size (.slice A' ((sortL (farK X Y) (told q0 q1 P full)).map Bn.id).length c') ((sortL (farK X Y) (told q0 q1 P full)).map Bn.id) ∧ Below V.heap.size V w') := Lib.hid fun A c V h => by
    rw [← hn2] at h
    have := qnames_any (c := c) (RdB.of_own h) (by omega)
    rwa [hn2] at this
  have ST : Hid (∀ (A : Option Addr) (c : Nat) V, OwnB V w5.heap.size (.slice A (told q0 q1 P full).length c) (told q0 q1 P full) → Below w5.heap.size w5 V → Calls Try.prog 68 #[.slice A (told q0 q1 P full).length c, .func (.func 69) #[] #[.pointer (some ⟨w.heap.size + 4, 0, none⟩)]] V fun e w' => e = .returned (.tuple #[]) ∧ OwnB w' w5.heap.size (.slice A (told q0 q1 P full).length c) (sortL (farK X Y) (told q0 q1 P full)) ∧ Below w5.heap.size w5 w') := Lib.hid fun A c V ho hb => by
    refine (sortstable_any (B := w5.heap.size) (w := V) (κ := farK X Y) ⟨ho, rfl, Below.refl _ _⟩ (Nat.le_trans hn (by decide)) hb.size (CM.out.below hb)).mono ?_
    rintro e w' ⟨he, hr⟩
    exact ⟨he, hr.own, hb.trans hr.bel⟩
  obtain ⟨k0, k1⟩ := (Bx.b2 n0).1
  have NBh := Lib.hid NB
  clear HS hn n1 n2 n3 n4 NB CM s3 hP
  go_wp2_with (first
    | (go_at_call 60; refine FN.out.mono ?_; rintro e w6 ⟨A6, c6, rfl, o6, b6⟩; have ST2 := Lib.hid (ST.out A6 c6 w6 o6 b6); clear FN ST o6 b6)
    | (go_at_call 68; refine ST2.out.mono ?_; rintro e w7 ⟨rfl, o7, b7⟩; have NM2 := Lib.hid (NM.out A6 c6 w7 o7); have B7 := NBh.out.trans (b7.mono NBh.out.size); clear ST2 NM o7 b7)
    | (go_at_call 59; refine NM2.out.mono ?_; rintro e w8 ⟨A8, c8, rfl, o8, b8⟩; clear NM2))
  go_ret
  exact ⟨A8, c8, by simp [hn2], o8.base B7.size, B7.trans (b8.mono B7.size)⟩
end Go.Proofs.Ytgmgenggboicnaa
