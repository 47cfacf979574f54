/- BuFl, BuFl2, BuRFl, BuList, BuSet, BuAwake, in one text. -/
import Derived.Test.YteollbioeamciaaKBuDo
import Derived.Test.YteollbioeamciaaKBuC
import Derived.Test.YteollbioeamciaaKBuRDo
import Derived.BigQuiet
import Derived.Test.YteollbioeamciaaKPz
namespace Go.Proofs.Yteollbioeamciaa
open Go.RowKit Pz Ar Bu Sp
set_option linter.unusedVariables false
set_option linter.unusedSimpArgs false

section
variable {w W V : World} {L : List Piece} {s b : Nat} {t : Tb} {l : List De}
/-- a number more at the end of one's own row -/
theorem Sep.push {T : Nat} {v : Value} {xs : List Int} (h : Sep w (row nuE T 1 v xs :: L) W) {v' : Value} {x : Int} (ho : Rw nuE T 1 V 0 v' (xs ++ [x])) (hg : W.grownBy V v.ownBlock) (hv : ∀ g, v'.ownBlock = some g → v.ownBlock = some g ∨ W.heap.size ≤ g) : Sep w (row nuE T 1 v' (xs ++ [x]) :: L) V := by
  obtain ⟨G, ⟨h1, h2⟩, _, next⟩ := h.one
  exact next V (row nuE T 1 v' (xs ++ [x])) (fun k => v'.ownBlock = some k) ⟨hg.os, hg.tape, hg.output, hg.size, fun k hk hn => hg.block k hk fun e => hn ((h2 k).2 e.symm)⟩ ⟨ho, fun k => Iff.rfl⟩ fun k hk => (hv k hk).imp (fun e => (h2 k).2 e) id
theorem push_run {T TT : Nat} (htt : Try.prog.underlying TT = some (.slice T)) (hi : (Try.prog.info? T).map (fun i => (i.zero, i.size, i.bytes)) = some (some (.int .i64 0), 1, 8)) {v : Value} {xs : List Int} (h : Sep w (row nuE T 1 v xs :: L) W) (x : Int) (hn : xs.length + 1 ≤ 1000000) (ty : TypeId) :
    ∃ A' c' V, (Builtin.append_ #[TT, TT] ty #[v, .slice (some ⟨W.heap.size, 0, none⟩) 1 1]).run Try.prog (W.alloc (.cells #[.int .i64 x] T)) = .ok (.slice A' (xs ++ [x]).length c') V ∧ Sep w (row nuE T 1 (.slice A' (xs ++ [x]).length c') (xs ++ [x]) :: L) V := by
  have h1 := h.rows 0 rfl
  obtain ⟨v', V, hr, ho, hg, hv, _⟩ := app_x (enc := nuE) (T := T) (s := 1) (t := TT) htt hi rfl (by decide) nuE_len nuE_one h1 (Nat.zero_le _) x hn (by decide) ty
  obtain ⟨A', c', rfl⟩ := ho.form
  exact ⟨A', c', V, hr, h.push ho hg hv⟩
theorem row_form {T : Nat} {v : Value} {xs : List Int} (h : Sep w (row nuE T 1 v xs :: L) W) : ∃ A c, v = .slice A xs.length c := (h.rows 0 rfl).form
theorem row_none {α : Type} (enc : α → List Value) (T n : Nat) (h : Sep w L W) : Sep w (row enc T n (.slice none 0 0) [] :: L) W :=
  h.add (P := row enc T n (.slice none 0 0) []) (G := fun k => (Value.slice none 0 0).ownBlock = some k) (Below.refl _ _) ⟨rw_nil _ _, fun k => Iff.rfl⟩ fun k hk => by cases hk
/-- a buffer's deeds, read in place; its box -/
theorem Sep.waits (h : Sep w L W) (i : Nat) (e : L[i]? = some (buf b l)) : ∃ A c, W.cell? ⟨b, 0, none⟩ = some (.slice A l.length c) ∧ W.frozen? ⟨b, 0, none⟩ = false ∧ OwnD W 0 (.slice A l.length c) l := by
  obtain ⟨G, v, h1, h2, h3⟩ : ∃ G, (buf b l).at_ G W := h.get i e
  obtain ⟨A, c, rfl⟩ := h2.form
  exact ⟨A, c, (Bx.b1 h1).1, (Bx.b1 h1).2, h2⟩
/-- none wait any more -/
theorem Sep.emptied (h : Sep w (buf b l :: L) W) : Sep w (buf b [] :: L) (W.setCell ⟨b, 0, none⟩ (.slice none 0 0)) := by
  obtain ⟨G, ⟨v, h1, h2, h3⟩, _, next⟩ := h.one
  refine next _ (buf b []) (fun k => k = b ∨ (Value.slice none 0 0).ownBlock = some k) (Only.set (Only.refl _ _) (a := ⟨b, 0, none⟩) (.inl ((h3 b).2 (.inl rfl))) _) ⟨.slice none 0 0, Bx.set h1 _, rw_nil _ _, fun k => Iff.rfl⟩ fun k hk => ?_
  rcases hk with rfl | hk
  · exact .inl ((h3 k).2 (.inl rfl))
  · cases hk
/-- the deeds that wait stay where they lie -/
def WaitAt (b : Nat) (l : List De) (A : Option Addr) (c : Nat) : Piece := ⟨fun F W => W.heap[b]? = some (.cells #[.slice A l.length c] BFT (0, 0)) ∧ OwnD W 0 (.slice A l.length c) l ∧ ∀ k, F k ↔ k = b ∨ (Value.slice A l.length c).ownBlock = some k,
  fun ⟨h1, h2, h3⟩ hs hk => ⟨(hk b ((h3 b).2 (.inl rfl))).trans h1, h2.kept fun g hg => hk g ((h3 g).2 (.inr hg)), h3⟩,
  fun ⟨h1, h2, h3⟩ k hk => by
    rcases (h3 k).1 hk with e | e
    · rw [e]; exact Bx.lt h1
    · obtain ⟨_, cur, hc⟩ := h2.blk e
      exact Bx.lt hc⟩
theorem Sep.wait (h : Sep w (buf b l :: L) W) : ∃ A c, Sep w (WaitAt b l A c :: L) W := by
  obtain ⟨h0, F, ⟨G, H, ⟨v, h1, h2, h3⟩, k1, k2, k3⟩, k4⟩ := h
  obtain ⟨A, c, rfl⟩ := h2.form
  exact ⟨A, c, h0, F, ⟨G, H, ⟨h1, h2, h3⟩, k1, k2, k3⟩, k4⟩
theorem Sep.unwait {A : Option Addr} {c : Nat} (h : Sep w (WaitAt b l A c :: L) W) : Sep w (buf b l :: L) W := by
  obtain ⟨h0, F, ⟨G, H, ⟨h1, h2, h3⟩, k1, k2, k3⟩, k4⟩ := h
  exact ⟨h0, F, ⟨G, H, ⟨_, h1, h2, h3⟩, k1, k2, k3⟩, k4⟩
theorem Sep.waitc {A : Option Addr} {c : Nat} (h : Sep w L W) (i : Nat) (e : L[i]? = some (WaitAt b l A c)) : W.cell? ⟨b, 0, none⟩ = some (.slice A l.length c) ∧ W.frozen? ⟨b, 0, none⟩ = false ∧ OwnD W 0 (.slice A l.length c) l := by
  obtain ⟨G, h1, h2, h3⟩ : ∃ G, (WaitAt b l A c).at_ G W := h.get i e
  exact ⟨(Bx.b1 h1).1, (Bx.b1 h1).2, h2⟩
end
end Go.Proofs.Yteollbioeamciaa
namespace Go.Proofs.Yteollbioeamciaa
open Go.RowKit Pz Ar Bu Sp
set_option linter.unusedVariables false
set_option linter.unusedSimpArgs false

section
variable {w W V : World} {L : List Piece} {s b : Nat} {t : Tb} {l : List De}
set_option maxHeartbeats 8000000 in
set_option maxRecDepth 100000 in
theorem Sep.flush (h : Sep w (stC s t :: buf b l :: L) W) {n : Nat} (hl : Le t n) (hn : n + l.length < 100000) :
    Calls Try.prog 19 #[.pointer (some ⟨b, 0, none⟩), .pointer (some ⟨s, 0, none⟩)] W fun e V => ∃ A c, e = .returned (.slice A l.length c) ∧ Sep w (rowE (.slice A l.length c) (said t l) :: stC s (bdos t l) :: buf b [] :: L) V := by
  obtain ⟨A, c, h0⟩ : ∃ A c, Sep w (WaitAt b l A c :: stC s t :: L) W := (show Sep w (buf b l :: stC s t :: L) W from h.pull 1 rfl).wait
  have h1 : Hid (Sep w (rowE (.slice none (0 : Nat) 0) (said t (l.take 0)) :: stC s (bdos t (l.take 0)) :: WaitAt b l A c :: L) W) := Lib.hid (row_none nuE _ 1 (h0.pull 1 rfl))
  obtain ⟨k1, k2, ho⟩ := h0.waitc 0 rfl
  have OD : Hid (∀ V sv j, Sep w (rowE sv (said t (l.take j)) :: stC s (bdos t (l.take j)) :: WaitAt b l A c :: L) V → V.cell? ⟨b, 0, none⟩ = some (.slice A l.length c) ∧ V.frozen? ⟨b, 0, none⟩ = false ∧ OwnD V 0 (.slice A l.length c) l) := Lib.hid fun V sv j hV => hV.waitc 2 rfl
  have DX : Hid (∀ V sv j, Sep w (rowE sv (said t (l.take j)) :: stC s (bdos t (l.take j)) :: WaitAt b l A c :: L) V → ∀ x, l[j]? = some x → Calls Try.prog 11 #[.pointer (some ⟨s, 0, none⟩), x.val] V fun e V' => e = .returned (.int .i64 (bdo (bdos t (l.take j)) x).2) ∧ Sep w (rowE sv (said t (l.take j)) :: stC s (bdos t (l.take (j + 1))) :: WaitAt b l A c :: L) V') := Lib.hid fun V sv j hV x hx => by
    have hLe : Le (bdos t (l.take j)) (n + (l.take j).length) := le_bdos _ hl
    have := (show Sep w (stC s (bdos t (l.take j)) :: rowE sv (said t (l.take j)) :: WaitAt b l A c :: L) V from hV.pull 1 rfl).do_ x hLe (by rw [List.length_take]; omega)
    refine this.mono fun e V' ⟨e1, e2⟩ => ⟨e1, ?_⟩
    rw [bdos_take t hx]
    exact e2.pull 1 rfl
  have PX : Hid (∀ V sv j, Sep w (rowE sv (said t (l.take j)) :: stC s (bdos t (l.take (j + 1))) :: WaitAt b l A c :: L) V → ∀ x, l[j]? = some x → ∃ A' c' V', (Builtin.append_ #[48, 48] 48 #[sv, .slice (some ⟨V.heap.size, 0, none⟩) 1 1]).run Try.prog (V.alloc (.cells #[.int .i64 (bdo (bdos t (l.take j)) x).2] 31)) = .ok (.slice A' (j + 1) c') V' ∧ Sep w (rowE (.slice A' (j + 1 : Nat) c') (said t (l.take (j + 1))) :: stC s (bdos t (l.take (j + 1))) :: WaitAt b l A c :: L) V') := Lib.hid fun V sv j hV x hx => by
    have hj := (List.getElem?_eq_some_iff.1 hx).1
    obtain ⟨A', c', V', e1, e2⟩ := push_run Try.underlying48 errno_info hV (bdo (bdos t (l.take j)) x).2 (by rw [said_len, List.length_take]; omega) 48
    have e3 : (said t (l.take j) ++ [(bdo (bdos t (l.take j)) x).2]).length = j + 1 := by rw [List.length_append, said_len, List.length_take]; simp; omega
    rw [e3] at e1 e2
    rw [said_take t hx]
    exact ⟨A', c', V', e1, e2⟩
  have FX : Hid (∀ V sv, Sep w (rowE sv (said t (l.take l.length)) :: stC s (bdos t (l.take l.length)) :: WaitAt b l A c :: L) V → Sep w (rowE sv (said t l) :: stC s (bdos t l) :: buf b [] :: L) (V.setCell ⟨b, 0, none⟩ (.slice none 0 0))) := Lib.hid fun V sv hV => by
    rw [List.take_length] at hV
    have h5 : Sep w (WaitAt b l A c :: rowE sv (said t l) :: stC s (bdos t l) :: L) V := hV.pull 2 rfl
    have h6 := h5.unwait.emptied
    have h7 : Sep w (stC s (bdos t l) :: buf b [] :: rowE sv (said t l) :: L) _ := h6.pull 2 rfl
    exact h7.pull 2 rfl
  have lb : (l.length : Int) ≤ 100000 := by omega
  clear h h0 hl hn ho
  go_enter Try.func19, Try.ntmps19
  go_wp2
  go_loopw [5, 15] (fun sv i wr => ∃ j A' c', j ≤ l.length ∧ sv = .slice A' j c' ∧ i = .int .i64 j ∧ Hid (Sep w (rowE (.slice A' j c') (said t (l.take j)) :: stC s (bdos t (l.take j)) :: WaitAt b l A c :: L) wr)) (fun sv i _ => l.length - (intOf i).toNat)
  case atStart => exact ⟨0, none, 0, Nat.zero_le _, rfl, rfl, h1⟩
  case round =>
    obtain ⟨j, A', c', hj, rfl, rfl, HP⟩ := hrel
    clear h1 k1 k2
    by_cases hjn : j < l.length
    · have t1 : (j : Int) < (l.length : Int) := by omega
      have hx := List.getElem?_eq_getElem hjn
      obtain ⟨k1, k2, ho⟩ := OD.out _ _ _ HP.out
      obtain ⟨g, o, rfl, _, _, KC, _⟩ := ownd_at ho hx
      have DY := Lib.hid fun V hV => DX.out V (.slice A' j c') j hV _ hx
      have PY := Lib.hid fun V hV => PX.out V (.slice A' j c') j hV _ hx
      have HP2 : Hid (Sep w (rowE (.slice A' j c') (said t (l.take j)) :: stC s (bdos t (l.take j)) :: WaitAt b l (some ⟨g, o, none⟩) c :: L) (wr.alloc (.cells #[.int .i64 l[j].k, .int .i64 l[j].b.s, .int .i64 l[j].b.i, .int .i64 l[j].b.g, .int .i64 l[j].b.m, .int .i64 l[j].b.x, .int .i64 l[j].b.y, .int .i64 l[j].b.vx, .int .i64 l[j].b.vy, .int .i64 l[j].b.h, .int .i64 l[j].b.p, .int .i64 l[j].b.l, .int .i64 l[j].m] DTY))) := Lib.hid (HP.out.below (bel1 wr _))
      have T1 := Lib.hid (Bx.b13 (at1 wr (.cells #[.int .i64 l[j].k, .int .i64 l[j].b.s, .int .i64 l[j].b.i, .int .i64 l[j].b.g, .int .i64 l[j].b.m, .int .i64 l[j].b.x, .int .i64 l[j].b.y, .int .i64 l[j].b.vx, .int .i64 l[j].b.vy, .int .i64 l[j].b.h, .int .i64 l[j].b.p, .int .i64 l[j].b.l, .int .i64 l[j].m] DTY))).1
      clear HP OD DX PX FX ho k1 k2
      obtain ⟨m0, m1, m2, m3, m4, m5, m6, m7, m8, m9, m10, m11, m12⟩ := T1.out
      clear T1
      obtain ⟨k0, k1, k2, k3, k4, k5, k6, k7, k8, k9, k10, k11, k12⟩ := KC
      generalize hr : (bdo (bdos t (l.take j)) l[j]).2 = r at *
      clear hr hx
      simp only [De.val] at DY
      generalize said t (l.take j) = S0 at *
      generalize hS1 : said t (l.take (j + 1)) = S1 at *
      replace hS1 := Lib.hid hS1
      generalize bdos t (l.take j) = t0 at *
      generalize hT1 : bdos t (l.take (j + 1)) = t1' at *
      replace hT1 := Lib.hid hT1
      generalize l[j].k = y0 at *
      generalize l[j].b.s = y1 at *
      generalize l[j].b.i = y2 at *
      generalize l[j].b.g = y3 at *
      generalize l[j].b.m = y4 at *
      generalize l[j].b.x = y5 at *
      generalize l[j].b.y = y6 at *
      generalize l[j].b.vx = y7 at *
      generalize l[j].b.vy = y8 at *
      generalize l[j].b.h = y9 at *
      generalize l[j].b.p = y10 at *
      generalize l[j].b.l = y11 at *
      generalize l[j].m = y12 at *
      go_wp2_with (first
        | (go_at_call 11; refine (DY.out _ HP2.out).mono ?_; rintro e w5 ⟨rfl, h5⟩; obtain ⟨A2, c2, w6, hr6, h6'⟩ := PY.out _ h5; have HR := Lib.hid hr6; have h6 := Lib.hid h6'; clear h6' hr6 h5 DY PY HP2 k0 k1 k2 k3 k4 k5 k6 k7 k8 k9 k10 k11 k12 m0 m1 m2 m3 m4 m5 m6 m7 m8 m9 m10 m11 m12)
        | (at_builtin; refine wpList_append _ rfl (.tmp 19) (.tmp 23) _ _ rfl _ _ rfl rfl _ _ HR.out ?_))
      go_roundw
      case rel => exact ⟨j + 1, A2, c2, by omega, rfl, by go_num, by rw [hS1.out, hT1.out]; exact h6⟩
      case measure => simp [intOf]; omega
    · obtain rfl : j = l.length := by omega
      have t1 : ¬ (l.length : Int) < (l.length : Int) := by omega
      obtain ⟨k1, k2, _⟩ := OD.out _ _ _ HP.out
      have HF := Lib.hid (FX.out _ _ HP.out)
      clear OD DX PX FX HP
      go_wp2
      go_ret
      exact ⟨_, _, rfl, HF.out⟩
end
end Go.Proofs.Yteollbioeamciaa
namespace Go.Proofs.Yteollbioeamciaa
open Go.RowKit Pz Ar Bu Sp
set_option linter.unusedVariables false
set_option linter.unusedSimpArgs false

section
variable {w W V : World} {L : List Piece} {r b : Nat} {u : Tb} {l : List De}
set_option maxHeartbeats 8000000 in
set_option maxRecDepth 100000 in
theorem Sep.rflush (h : Sep w (stR r u :: L) W) {A : Option Addr} {c : Nat} (R : RdDe w w.heap.size A l) (hF : ∀ x ∈ l, Fit x.b.m ∧ Fit x.m) {n : Nat} (hl : Le u n) (hn : n + l.length < 100000) :
    Calls Try.prog 21 #[.pointer (some ⟨r, 0, none⟩), .slice A l.length c] W fun e V => ∃ A c, e = .returned (.slice A l.length c) ∧ Sep w (rowZ (.slice A l.length c) (said u l) :: stR r (bdos u l) :: L) V := by
  have h1 : Hid (Sep w (rowZ (.slice none (0 : Nat) 0) (said u (l.take 0)) :: stR r (bdos u (l.take 0)) :: L) W) := Lib.hid (row_none nuE _ 1 h)
  have RD : Hid (∀ V, Below w.heap.size w V → RdDe V w.heap.size A l) := Lib.hid fun V hV => R.below hV
  have DX : Hid (∀ V sv j, Sep w (rowZ sv (said u (l.take j)) :: stR r (bdos u (l.take j)) :: L) V → ∀ x, l[j]? = some x → Calls Try.prog 12 #[.pointer (some ⟨r, 0, none⟩), x.val] V fun e V' => e = .returned (.int .i64 (bdo (bdos u (l.take j)) x).2) ∧ Sep w (rowZ sv (said u (l.take j)) :: stR r (bdos u (l.take (j + 1))) :: L) V') := Lib.hid fun V sv j hV x hx => by
    have hLe : Le (bdos u (l.take j)) (n + (l.take j).length) := le_bdos _ hl
    have := (show Sep w (stR r (bdos u (l.take j)) :: rowZ sv (said u (l.take j)) :: L) V from hV.pull 1 rfl).rdo x (hF x (List.mem_of_getElem? hx)) hLe (by rw [List.length_take]; omega)
    refine this.mono fun e V' ⟨e1, e2⟩ => ⟨e1, ?_⟩
    rw [bdos_take u hx]
    exact e2.pull 1 rfl
  have PX : Hid (∀ V sv j, Sep w (rowZ sv (said u (l.take j)) :: stR r (bdos u (l.take (j + 1))) :: L) V → ∀ x, l[j]? = some x → ∃ A' c' V', (Builtin.append_ #[51, 51] 51 #[sv, .slice (some ⟨V.heap.size, 0, none⟩) 1 1]).run Try.prog (V.alloc (.cells #[.int .i64 (bdo (bdos u (l.take j)) x).2] 3)) = .ok (.slice A' (j + 1) c') V' ∧ Sep w (rowZ (.slice A' (j + 1 : Nat) c') (said u (l.take (j + 1))) :: stR r (bdos u (l.take (j + 1))) :: L) V') := Lib.hid fun V sv j hV x hx => by
    have hj := (List.getElem?_eq_some_iff.1 hx).1
    obtain ⟨A', c', V', e1, e2⟩ := push_run Try.underlying51 int_info hV (bdo (bdos u (l.take j)) x).2 (by rw [said_len, List.length_take]; omega) 51
    have e3 : (said u (l.take j) ++ [(bdo (bdos u (l.take j)) x).2]).length = j + 1 := by rw [List.length_append, said_len, List.length_take]; simp; omega
    rw [e3] at e1 e2
    rw [said_take u hx]
    exact ⟨A', c', V', e1, e2⟩
  have FX : Hid (∀ V sv, Sep w (rowZ sv (said u (l.take l.length)) :: stR r (bdos u (l.take l.length)) :: L) V → Sep w (rowZ sv (said u l) :: stR r (bdos u l) :: L) V) := Lib.hid fun V sv hV => by
    rw [List.take_length] at hV
    exact hV
  have lb : (l.length : Int) ≤ 100000 := by omega
  clear h hl hn R hF
  go_enter Try.func21, Try.ntmps21
  go_wp2
  go_loopw [5, 6] (fun sv i wr => ∃ j A' c', j ≤ l.length ∧ sv = .slice A' j c' ∧ i = .int .i64 j ∧ Hid (Sep w (rowZ (.slice A' j c') (said u (l.take j)) :: stR r (bdos u (l.take j)) :: L) wr)) (fun sv i _ => l.length - (intOf i).toNat)
  case atStart => exact ⟨0, none, 0, Nat.zero_le _, rfl, rfl, h1⟩
  case round =>
    obtain ⟨j, A', c', hj, rfl, rfl, HP⟩ := hrel
    clear h1
    by_cases hjn : j < l.length
    · have t1 : (j : Int) < (l.length : Int) := by omega
      have hx := List.getElem?_eq_getElem hjn
      obtain ⟨g, o, rfl, _, KC⟩ := RD.out _ HP.out.bel j _ hx
      have DY := Lib.hid fun V hV => DX.out V (.slice A' j c') j hV _ hx
      have PY := Lib.hid fun V hV => PX.out V (.slice A' j c') j hV _ hx
      clear RD DX PX FX
      obtain ⟨k0, k1, k2, k3, k4, k5, k6, k7, k8, k9, k10, k11, k12⟩ := KC
      generalize hr : (bdo (bdos u (l.take j)) l[j]).2 = rr at *
      clear hr hx
      simp only [De.val] at DY
      generalize said u (l.take j) = S0 at *
      generalize hS1 : said u (l.take (j + 1)) = S1 at *
      replace hS1 := Lib.hid hS1
      generalize bdos u (l.take j) = t0 at *
      generalize hT1 : bdos u (l.take (j + 1)) = t1' at *
      replace hT1 := Lib.hid hT1
      generalize l[j].k = y0 at *
      generalize l[j].b.s = y1 at *
      generalize l[j].b.i = y2 at *
      generalize l[j].b.g = y3 at *
      generalize l[j].b.m = y4 at *
      generalize l[j].b.x = y5 at *
      generalize l[j].b.y = y6 at *
      generalize l[j].b.vx = y7 at *
      generalize l[j].b.vy = y8 at *
      generalize l[j].b.h = y9 at *
      generalize l[j].b.p = y10 at *
      generalize l[j].b.l = y11 at *
      generalize l[j].m = y12 at *
      go_wp2_with (first
        | (go_at_call 12; refine (DY.out _ HP.out).mono ?_; rintro e w5 ⟨rfl, h5⟩; obtain ⟨A2, c2, w6, hr6, h6'⟩ := PY.out _ h5; have HR := Lib.hid hr6; have h6 := Lib.hid h6'; clear h6' hr6 h5 DY PY HP k0 k1 k2 k3 k4 k5 k6 k7 k8 k9 k10 k11 k12)
        | (at_builtin; refine wpList_append _ rfl (.tmp 13) (.tmp 20) _ _ rfl _ _ rfl rfl _ _ HR.out ?_))
      go_roundw
      case rel => exact ⟨j + 1, A2, c2, by omega, rfl, by go_num, by rw [hS1.out, hT1.out]; exact h6⟩
      case measure => simp [intOf]; omega
    · obtain rfl : j = l.length := by omega
      have t1 : ¬ (l.length : Int) < (l.length : Int) := by omega
      have HF := Lib.hid (FX.out _ _ HP.out)
      clear RD DX PX FX HP
      go_wp2
      go_ret
      exact ⟨_, _, rfl, HF.out⟩
set_option maxHeartbeats 8000000 in
set_option maxRecDepth 100000 in
/-- the same answers -/
theorem same_said {A A2 : Option Addr} {c c2 : Nat} {xs : List Int} (h1 : OwnE W 0 (.slice A xs.length c) xs) (h2 : OwnZ W 0 (.slice A2 xs.length c2) xs) (hn : xs.length ≤ 100000) :
    Calls Try.prog 20 #[.slice A xs.length c, .slice A2 xs.length c2] W fun e V => e = .returned (.bool true) ∧ Below W.heap.size W V := by
  have RA := Lib.hid fun j x (hx : xs[j]? = some x) => num_at h1 hx
  have RB := Lib.hid fun j x (hx : xs[j]? = some x) => num_at h2 hx
  have BX : Hid (∀ V, Below W.heap.size W V → ∀ g o, g < W.heap.size → V.cell? ⟨g, o, none⟩ = W.cell? ⟨g, o, none⟩) := Lib.hid fun V hV g o hg => hV.cell (p := ⟨g, o, none⟩) hg
  have hb : (xs.length : Int) ≤ 100000 := by omega
  have hne : ((xs.length : Int) != (xs.length : Int)) = false := by simp
  clear h1 h2 hn
  go_enter Try.func20, Try.ntmps20
  go_wp2
  go_loopw [5] (fun i wr => ∃ j : Nat, j ≤ xs.length ∧ i = .int .i64 j ∧ Hid (Below W.heap.size W wr)) (fun i _ => xs.length - (intOf i).toNat)
  case atStart => exact ⟨0, Nat.zero_le _, rfl, Lib.hid (Below.refl _ _)⟩
  case round =>
    obtain ⟨j, hj, rfl, HB⟩ := hrel
    by_cases hjn : j < xs.length
    · have t1 : (j : Int) < (xs.length : Int) := by omega
      obtain ⟨g, o, rfl, _, hg1, e1⟩ := RA.out j _ (List.getElem?_eq_getElem hjn)
      obtain ⟨g2, o2, rfl, _, hg2, e2⟩ := RB.out j _ (List.getElem?_eq_getElem hjn)
      have k1 := (BX.out _ HB.out _ _ hg1).trans e1
      have k2 := (BX.out _ HB.out _ _ hg2).trans e2
      have nm : (xs[j] != xs[j]) = false := by simp
      clear RA RB BX e1 e2 hg1 hg2
      generalize xs[j] = x at *
      go_upto_region 6 with fail
      go_quiet (fail)
      go_wp2
      go_roundw
      case rel => exact ⟨j + 1, by omega, by go_num, Lib.hid (by first | exact HB.out | exact Below.dn' HB.out _)⟩
      case measure => simp [intOf]; omega
    · obtain rfl : j = xs.length := by omega
      have t1 : ¬ (xs.length : Int) < (xs.length : Int) := by omega
      clear RA RB BX
      go_wp2
      go_ret
      exact ⟨rfl, HB.out⟩
end
end Go.Proofs.Yteollbioeamciaa
namespace Go.Proofs.Yteollbioeamciaa
open Go.RowKit Pz Ar Bu Sp
set_option linter.unusedVariables false
set_option linter.unusedSimpArgs false

section
variable {w W V : World} {L : List Piece} {b : Nat} {l : List De}
/-- appended to a row without elements: a copy of one's own -/
theorem copy_run {A : Option Addr} {c : Nat} (R : RdDe W W.heap.size A l) (hn : l.length ≤ 1000000) (ty : TypeId) :
    ∃ A' c' V, (Builtin.append_ #[DLT, DLT] ty #[.slice (some ⟨W.heap.size, 0, none⟩) 0 0, .slice A l.length c]).run Try.prog (W.alloc (.cells #[] DTY)) = .ok (.slice A' l.length c') V ∧ OwnD V W.heap.size (.slice A' l.length c') l ∧ Below W.heap.size W V := by
  have hb := bel1 W (.cells #[] DTY)
  have h0 : OwnD (W.alloc (.cells #[] DTY)) W.heap.size (.slice (some ⟨W.heap.size, 0, none⟩) 0 0) [] := .inr ⟨W.heap.size, 0, 0, #[], rfl, Nat.le_refl _, at1 W _, Nat.le_refl _, by decide, by simp, fun j x hj => by simp at hj⟩
  obtain ⟨v', V, hr, ho, hg, hf⟩ := h0.app (c := c) hb.size ((R.below hb).more hb.size) (by simpa using hn) ty
  rw [List.nil_append] at ho
  obtain ⟨A', c', rfl⟩ := ho.form
  exact ⟨A', c', V, hr, ho, below_row hb hg hb.size fun g e => by cases e; exact Nat.le_refl _⟩
theorem eql_none (V : World) : (binOp .eql DLT (.slice none 0 0) (.slice none 0 0)).run Try.prog V = .ok (.bool true) V := by kernel_rfl
theorem eql_some (a : Addr) (n c : Nat) (V : World) : (binOp .eql DLT (.slice (some a) n c) (.slice none 0 0)).run Try.prog V = .ok (.bool false) V := by kernel_rfl
set_option maxHeartbeats 4000000 in
set_option maxRecDepth 100000 in
theorem clone_any {A : Option Addr} {c : Nat} (ho : OwnD W 0 (.slice A l.length c) l) (hn : l.length ≤ 1000000) :
    Calls Try.prog 40 #[.slice A l.length c] W fun e V => ∃ A' c', e = .returned (.slice A' l.length c') ∧ OwnD V W.heap.size (.slice A' l.length c') l ∧ Below W.heap.size W V := by
  cases A with
  | none =>
    obtain ⟨rfl, rfl⟩ : l = [] ∧ c = 0 := by
      rcases ho with ⟨e, h⟩ | ⟨g, off, cap, cur, e, _⟩
      · subst h; injection e with _ _ e3; exact ⟨rfl, e3⟩
      · cases e
    have hX := Lib.hid (show ∃ A' c', Ending.returned (.slice none 0 0) = .returned (.slice A' ([] : List De).length c') ∧ OwnD W W.heap.size (.slice A' ([] : List De).length c') [] ∧ Below W.heap.size W W from ⟨none, 0, rfl, rw_nil _ _, Below.refl _ _⟩)
    simp only [List.length_nil] at *
    clear ho
    have q1 := eql_none W
    go_enter Try.func40, Try.ntmps40
    go_wp2
    go_ret
    exact hX.out
  | some a =>
    obtain ⟨A', c', V, hr, h1, h2⟩ := copy_run (c := c) (RdDe.of_own ho) hn 22
    have HR := Lib.hid hr
    have HX := Lib.hid (And.intro h1 h2)
    clear hr h1 h2 ho hn
    generalize hL : l.length = n at *
    replace hL := Lib.hid hL
    have q1 := eql_some a n c W
    go_enter Try.func40, Try.ntmps40
    go_wp2_with (at_builtin; refine wpList_append _ rfl (.tmp 5) (.tmp 6) _ _ rfl _ _ rfl rfl _ _ HR.out ?_)
    go_ret
    exact ⟨_, _, rfl, HX.out⟩
set_option maxHeartbeats 4000000 in
set_option maxRecDepth 100000 in
theorem Sep.list (h : Sep w L W) (i : Nat) (e : L[i]? = some (buf b l)) (hn : l.length ≤ 1000000) : Calls Try.prog 17 #[.pointer (some ⟨b, 0, none⟩)] W fun e V => ∃ A c, e = .returned (.slice A l.length c) ∧ Sep w (rowD (.slice A l.length c) l :: L) V := by
  obtain ⟨A, c, k1, k2, ho⟩ := h.waits i e
  have CX : Hid (Calls Try.prog 40 #[.slice A l.length c] W fun e V => ∃ A c, e = .returned (.slice A l.length c) ∧ Sep w (rowD (.slice A l.length c) l :: L) V) := Lib.hid ((clone_any ho hn).mono fun e V ⟨A', c', e1, e2, e3⟩ => ⟨A', c', e1, sep_row h e3 e2⟩)
  clear h e hn ho
  go_enter Try.func17, Try.ntmps17
  go_wp2_with (go_at_call 40; refine CX.out.mono ?_; rintro e V ⟨A', c', rfl, h1⟩)
  go_ret
  exact ⟨_, _, rfl, h1⟩
end
end Go.Proofs.Yteollbioeamciaa
namespace Go.Proofs.Yteollbioeamciaa
open Go.RowKit Pz Ar Bu Sp
set_option linter.unusedVariables false
set_option linter.unusedSimpArgs false

set_option maxRecDepth 100000 in
set_option maxHeartbeats 4000000 in
theorem eq_bundle_d (d : Nat) (p0 p1 p2 p3 p4 p5 p6 p7 p8 p9 p10 : Int) (w : World) : (Op.equalIn (d + 3) 36 (.agg #[.int .i64 p0, .int .i64 p1, .int .i64 p2, .int .i64 p3, .int .i64 p4, .int .i64 p5, .int .i64 p6, .int .i64 p7, .int .i64 p8, .int .i64 p9, .int .i64 p10]) (.agg #[.int .i64 p0, .int .i64 p1, .int .i64 p2, .int .i64 p3, .int .i64 p4, .int .i64 p5, .int .i64 p6, .int .i64 p7, .int .i64 p8, .int .i64 p9, .int .i64 p10])).run Try.prog w = .ok true w := by
  have u3 := Try.underlying3
  have a3 := Try.isAgg3
  have z3 := Try.sizeOf3
  have hS : Try.prog.underlying 36 = some (.struct (Try.prog.fieldsOf 36)) := by kernel_rfl
  have hp : Try.prog.stoodInHeld 36 = false := by kernel_rfl
  have E : ∀ W, (Op.equalIn (d + 2) 34 (.agg #[.int .i64 p0, .int .i64 p1, .int .i64 p2]) (.agg #[.int .i64 p0, .int .i64 p1, .int .i64 p2])).run Try.prog W = .ok true W := fun W => by rw [eq_id]; simp
  have u23 := Try.underlying34
  have a23 := Try.isAgg34
  have z23 := Try.sizeOf34
  rw [run_equalIn_agg w _ 36 _ _ hS hp]
  simp only [Program.fieldsOf, Try.underlying36]
  go_simp
set_option maxRecDepth 100000 in
set_option maxHeartbeats 4000000 in
theorem eq_deed (p0 p1 p2 p3 p4 p5 p6 p7 p8 p9 p10 p11 p12 : Int) (w : World) : (Op.equalIn (9999 + 1) 38 (.agg #[.int .i64 p0, .int .i64 p1, .int .i64 p2, .int .i64 p3, .int .i64 p4, .int .i64 p5, .int .i64 p6, .int .i64 p7, .int .i64 p8, .int .i64 p9, .int .i64 p10, .int .i64 p11, .int .i64 p12]) (.agg #[.int .i64 p0, .int .i64 p1, .int .i64 p2, .int .i64 p3, .int .i64 p4, .int .i64 p5, .int .i64 p6, .int .i64 p7, .int .i64 p8, .int .i64 p9, .int .i64 p10, .int .i64 p11, .int .i64 p12])).run Try.prog w = .ok true w := by
  have u3 := Try.underlying3
  have a3 := Try.isAgg3
  have z3 := Try.sizeOf3
  have hS : Try.prog.underlying 38 = some (.struct (Try.prog.fieldsOf 38)) := by kernel_rfl
  have hp : Try.prog.stoodInHeld 38 = false := by kernel_rfl
  have E := fun W => eq_bundle_d 9996 p1 p2 p3 p4 p5 p6 p7 p8 p9 p10 p11 W
  have u23 := Try.underlying36
  have a23 := Try.isAgg36
  have z23 := Try.sizeOf36
  rw [run_equalIn_agg w _ 38 _ _ hS hp]
  simp only [Program.fieldsOf, Try.underlying38]
  go_simp
/-- one deed of one's own row is another one -/
theorem ownd_set {W : World} {l : List De} {g o n c B0 : Nat} (h : OwnD W B0 (.slice (some ⟨g, o, none⟩) n c) l) {k : Nat} (hk : k < l.length) (x : De) :
    OwnD (((((((((((((W.setCell ⟨g, o + k * 13, none⟩ (.int .i64 x.k)).setCell ⟨g, o + k * 13 + 1, none⟩ (.int .i64 x.b.s)).setCell ⟨g, o + k * 13 + 2, none⟩ (.int .i64 x.b.i)).setCell ⟨g, o + k * 13 + 3, none⟩ (.int .i64 x.b.g)).setCell ⟨g, o + k * 13 + 4, none⟩ (.int .i64 x.b.m)).setCell ⟨g, o + k * 13 + 5, none⟩ (.int .i64 x.b.x)).setCell ⟨g, o + k * 13 + 6, none⟩ (.int .i64 x.b.y)).setCell ⟨g, o + k * 13 + 7, none⟩ (.int .i64 x.b.vx)).setCell ⟨g, o + k * 13 + 8, none⟩ (.int .i64 x.b.vy)).setCell ⟨g, o + k * 13 + 9, none⟩ (.int .i64 x.b.h)).setCell ⟨g, o + k * 13 + 10, none⟩ (.int .i64 x.b.p)).setCell ⟨g, o + k * 13 + 11, none⟩ (.int .i64 x.b.l)).setCell ⟨g, o + k * 13 + 12, none⟩ (.int .i64 x.m)) B0 (.slice (some ⟨g, o, none⟩) n c) (l.set k x) ∧ ∀ F : Foot, F g → Only F W (((((((((((((W.setCell ⟨g, o + k * 13, none⟩ (.int .i64 x.k)).setCell ⟨g, o + k * 13 + 1, none⟩ (.int .i64 x.b.s)).setCell ⟨g, o + k * 13 + 2, none⟩ (.int .i64 x.b.i)).setCell ⟨g, o + k * 13 + 3, none⟩ (.int .i64 x.b.g)).setCell ⟨g, o + k * 13 + 4, none⟩ (.int .i64 x.b.m)).setCell ⟨g, o + k * 13 + 5, none⟩ (.int .i64 x.b.x)).setCell ⟨g, o + k * 13 + 6, none⟩ (.int .i64 x.b.y)).setCell ⟨g, o + k * 13 + 7, none⟩ (.int .i64 x.b.vx)).setCell ⟨g, o + k * 13 + 8, none⟩ (.int .i64 x.b.vy)).setCell ⟨g, o + k * 13 + 9, none⟩ (.int .i64 x.b.h)).setCell ⟨g, o + k * 13 + 10, none⟩ (.int .i64 x.b.p)).setCell ⟨g, o + k * 13 + 11, none⟩ (.int .i64 x.b.l)).setCell ⟨g, o + k * 13 + 12, none⟩ (.int .i64 x.m)) := by
  rcases h with ⟨e, _⟩ | ⟨g', o', cap, cur, e, h1, h2, h3, h4, h5, h6⟩
  · cases e
  · cases e
    refine ⟨.inr ⟨g, o, c, (((((((((((((cur.setIfInBounds (o + k * 13) (.int .i64 x.k)).setIfInBounds (o + k * 13 + 1) (.int .i64 x.b.s)).setIfInBounds (o + k * 13 + 2) (.int .i64 x.b.i)).setIfInBounds (o + k * 13 + 3) (.int .i64 x.b.g)).setIfInBounds (o + k * 13 + 4) (.int .i64 x.b.m)).setIfInBounds (o + k * 13 + 5) (.int .i64 x.b.x)).setIfInBounds (o + k * 13 + 6) (.int .i64 x.b.y)).setIfInBounds (o + k * 13 + 7) (.int .i64 x.b.vx)).setIfInBounds (o + k * 13 + 8) (.int .i64 x.b.vy)).setIfInBounds (o + k * 13 + 9) (.int .i64 x.b.h)).setIfInBounds (o + k * 13 + 10) (.int .i64 x.b.p)).setIfInBounds (o + k * 13 + 11) (.int .i64 x.b.l)).setIfInBounds (o + k * 13 + 12) (.int .i64 x.m)), by rw [List.length_set], h1, Bx.set (Bx.set (Bx.set (Bx.set (Bx.set (Bx.set (Bx.set (Bx.set (Bx.set (Bx.set (Bx.set (Bx.set (Bx.set ((h2)) _) _) _) _) _) _) _) _) _) _) _) _) _, by rw [List.length_set]; exact h3, h4, by simpa using h5, fun j y hj c2 u hu => ?_⟩, fun F hF => ?_⟩
    · have hc : c2 < 13 := (List.getElem?_eq_some_iff.1 hu).1
      by_cases hjk : j = k
      · subst hjk
        have hy : y = x := by
          rw [List.getElem?_set_self hk] at hj
          exact (Option.some.inj hj).symm
        subst hy
        have hlt : o + j * 13 + c2 < cur.size := by
          have : j * 13 + 13 ≤ c * 13 := by
            have := Nat.mul_le_mul_right 13 (show j + 1 ≤ c by omega)
            omega
          omega
        have : c2 = 0 ∨ c2 = 1 ∨ c2 = 2 ∨ c2 = 3 ∨ c2 = 4 ∨ c2 = 5 ∨ c2 = 6 ∨ c2 = 7 ∨ c2 = 8 ∨ c2 = 9 ∨ c2 = 10 ∨ c2 = 11 ∨ c2 = 12 := by omega
        rw [← Nat.add_assoc]
        rcases this with rfl | rfl | rfl | rfl | rfl | rfl | rfl | rfl | rfl | rfl | rfl | rfl | rfl <;> (simp only [Array.getElem?_setIfInBounds, Array.size_setIfInBounds, Nat.add_zero] at hlt ⊢; simp [hlt] ; simpa [deE] using hu)
      · rw [List.getElem?_set_ne (fun e => hjk e.symm)] at hj
        have h7 := h6 j y hj c2 u hu
        rw [Array.getElem?_setIfInBounds_ne (by omega), Array.getElem?_setIfInBounds_ne (by omega), Array.getElem?_setIfInBounds_ne (by omega), Array.getElem?_setIfInBounds_ne (by omega), Array.getElem?_setIfInBounds_ne (by omega), Array.getElem?_setIfInBounds_ne (by omega), Array.getElem?_setIfInBounds_ne (by omega), Array.getElem?_setIfInBounds_ne (by omega), Array.getElem?_setIfInBounds_ne (by omega), Array.getElem?_setIfInBounds_ne (by omega), Array.getElem?_setIfInBounds_ne (by omega), Array.getElem?_setIfInBounds_ne (by omega), Array.getElem?_setIfInBounds_ne (by omega)]
        exact h7
    · exact (((((((((((((Only.refl F W).set (a := ⟨g, _, none⟩) (.inl hF) _).set (a := ⟨g, _, none⟩) (.inl hF) _).set (a := ⟨g, _, none⟩) (.inl hF) _).set (a := ⟨g, _, none⟩) (.inl hF) _).set (a := ⟨g, _, none⟩) (.inl hF) _).set (a := ⟨g, _, none⟩) (.inl hF) _).set (a := ⟨g, _, none⟩) (.inl hF) _).set (a := ⟨g, _, none⟩) (.inl hF) _).set (a := ⟨g, _, none⟩) (.inl hF) _).set (a := ⟨g, _, none⟩) (.inl hF) _).set (a := ⟨g, _, none⟩) (.inl hF) _).set (a := ⟨g, _, none⟩) (.inl hF) _).set (a := ⟨g, _, none⟩) (.inl hF) _
/-- .. in a world of more things -/
theorem Sep.setd {w W : World} {L : List Piece} {l : List De} {g o c : Nat} (h : Sep w (rowD (.slice (some ⟨g, o, none⟩) l.length c) l :: L) W) {k : Nat} (hk : k < l.length) (x : De) : Sep w (rowD (.slice (some ⟨g, o, none⟩) l.length c) (l.set k x) :: L) (((((((((((((W.setCell ⟨g, o + k * 13, none⟩ (.int .i64 x.k)).setCell ⟨g, o + k * 13 + 1, none⟩ (.int .i64 x.b.s)).setCell ⟨g, o + k * 13 + 2, none⟩ (.int .i64 x.b.i)).setCell ⟨g, o + k * 13 + 3, none⟩ (.int .i64 x.b.g)).setCell ⟨g, o + k * 13 + 4, none⟩ (.int .i64 x.b.m)).setCell ⟨g, o + k * 13 + 5, none⟩ (.int .i64 x.b.x)).setCell ⟨g, o + k * 13 + 6, none⟩ (.int .i64 x.b.y)).setCell ⟨g, o + k * 13 + 7, none⟩ (.int .i64 x.b.vx)).setCell ⟨g, o + k * 13 + 8, none⟩ (.int .i64 x.b.vy)).setCell ⟨g, o + k * 13 + 9, none⟩ (.int .i64 x.b.h)).setCell ⟨g, o + k * 13 + 10, none⟩ (.int .i64 x.b.p)).setCell ⟨g, o + k * 13 + 11, none⟩ (.int .i64 x.b.l)).setCell ⟨g, o + k * 13 + 12, none⟩ (.int .i64 x.m)) := by
  obtain ⟨G, ⟨h1, h2⟩, _, next⟩ := h.one
  obtain ⟨a, b⟩ := ownd_set h1 hk x
  exact next _ (rowD (.slice (some ⟨g, o, none⟩) l.length c) (l.set k x)) G (b G ((h2 g).2 rfl)) ⟨a, h2⟩ fun k hk => .inl hk
end Go.Proofs.Yteollbioeamciaa
namespace Go.Proofs.Yteollbioeamciaa
open Go.RowKit Pz Ar Bu Sp
set_option linter.unusedVariables false
set_option linter.unusedSimpArgs false

/-- deeds in a block of their own -/
theorem rd_cells {V : World} {q B : Nat} {ds : List De} (h : V.heap[q]? = some (.cells (ds.flatMap deE).toArray DTY (0, 0))) (hB : q < B) : RdDe V B (some ⟨q, 0, none⟩) ds := fun j x hx => by
  have key : ∀ c, c < 13 → ∀ u, (deE x)[c]? = some u → V.cell? ⟨q, 0 + j * 13 + c, none⟩ = some u := fun c hc u hu => by
    have := flat_at deE_len ds j x hx c hc
    rw [hu] at this
    refine (Bx.cell h ?_).1
    rw [List.getElem?_toArray, Nat.zero_add]
    exact this
  exact ⟨q, 0, rfl, hB, key 0 (by decide) _ rfl, key 1 (by decide) _ rfl, key 2 (by decide) _ rfl, key 3 (by decide) _ rfl, key 4 (by decide) _ rfl, key 5 (by decide) _ rfl, key 6 (by decide) _ rfl, key 7 (by decide) _ rfl, key 8 (by decide) _ rfl, key 9 (by decide) _ rfl, key 10 (by decide) _ rfl, key 11 (by decide) _ rfl, key 12 (by decide) _ rfl⟩
/-- a number of a row whose length is told -/
theorem num_at' {W : World} {B c n : Nat} {A : Option Addr} {l : List Int} {T : Nat} (h : Rw nuE T 1 W B (.slice A n c) l) {j : Nat} {x : Int} (hk : l[j]? = some x) : ∃ g o, A = some ⟨g, o, none⟩ ∧ B ≤ g ∧ g < W.heap.size ∧ W.cell? ⟨g, o + j, none⟩ = some (.int .i64 x) := by
  obtain ⟨A', c', e⟩ := h.form
  cases e
  exact num_at h hk
namespace Bu
abbrev aw1 : De := ⟨1, ⟨0, 0, 0, 1, 0, 0, 0, 0, 0, 0, 0⟩, 0⟩
abbrev aw2 : De := ⟨3, ⟨0, 0, 0, 4, 0, 0, 0, 0, 3, 0, 0⟩, 0⟩
abbrev aw3 : De := ⟨2, ⟨0, 1, 0, 0, 0, 0, 0, 0, 0, 0, 0⟩, 0⟩
abbrev aw4 : De := ⟨4, ⟨0, 0, 0, 0, 0, 0, 0, 0, 0, 0, 0⟩, 1⟩
abbrev awX : Bn := ⟨0, 0, 0, 5, 0, 0, 0, 0, 3, 0, 0⟩
theorem aw_vals : ∃ t1 t2 : Tb, bdos T0 [aw1, aw2, aw3] = t1 ∧ said T0 [aw1, aw2, aw3] = [0, 0, 6] ∧ Bu.get t1 (0, 0, 0) = some awX ∧ bdos t1 [aw4] = t2 ∧ said t1 [aw4] = [1] ∧ Le t1 3 :=
  ⟨_, _, rfl, by decide +kernel, by kernel_rfl, rfl, by decide +kernel, le_bdos [aw1, aw2, aw3] le_none⟩
end Bu
theorem aw_b0 (V : World) : (Instr.build 36 #[(1, .int .i64 1)]).run Try.prog V = .ok (.agg #[.int .i64 0, .int .i64 0, .int .i64 0, .int .i64 1, .int .i64 0, .int .i64 0, .int .i64 0, .int .i64 0, .int .i64 0, .int .i64 0, .int .i64 0]) V := by kernel_rfl
theorem aw_b1 (V : World) : (Instr.build DTY #[(0, .int .i64 1), (1, .agg #[.int .i64 0, .int .i64 0, .int .i64 0, .int .i64 1, .int .i64 0, .int .i64 0, .int .i64 0, .int .i64 0, .int .i64 0, .int .i64 0, .int .i64 0])]).run Try.prog V = .ok (.agg #[.int .i64 1, .int .i64 0, .int .i64 0, .int .i64 0, .int .i64 1, .int .i64 0, .int .i64 0, .int .i64 0, .int .i64 0, .int .i64 0, .int .i64 0, .int .i64 0, .int .i64 0]) V := by kernel_rfl
theorem aw_b2 (V : World) : (Instr.build 36 #[(1, .int .i64 4), (6, .int .i64 3)]).run Try.prog V = .ok (.agg #[.int .i64 0, .int .i64 0, .int .i64 0, .int .i64 4, .int .i64 0, .int .i64 0, .int .i64 0, .int .i64 0, .int .i64 3, .int .i64 0, .int .i64 0]) V := by kernel_rfl
theorem aw_b3 (V : World) : (Instr.build DTY #[(0, .int .i64 3), (1, .agg #[.int .i64 0, .int .i64 0, .int .i64 0, .int .i64 4, .int .i64 0, .int .i64 0, .int .i64 0, .int .i64 0, .int .i64 3, .int .i64 0, .int .i64 0])]).run Try.prog V = .ok (.agg #[.int .i64 3, .int .i64 0, .int .i64 0, .int .i64 0, .int .i64 4, .int .i64 0, .int .i64 0, .int .i64 0, .int .i64 0, .int .i64 3, .int .i64 0, .int .i64 0, .int .i64 0]) V := by kernel_rfl
theorem aw_b4 (V : World) : (Instr.build 34 #[(1, .int .i64 1)]).run Try.prog V = .ok (.agg #[.int .i64 0, .int .i64 1, .int .i64 0]) V := by kernel_rfl
theorem aw_b5 (V : World) : (Instr.build 36 #[(0, .agg #[.int .i64 0, .int .i64 1, .int .i64 0])]).run Try.prog V = .ok (.agg #[.int .i64 0, .int .i64 1, .int .i64 0, .int .i64 0, .int .i64 0, .int .i64 0, .int .i64 0, .int .i64 0, .int .i64 0, .int .i64 0, .int .i64 0]) V := by kernel_rfl
theorem aw_b6 (V : World) : (Instr.build DTY #[(0, .int .i64 2), (1, .agg #[.int .i64 0, .int .i64 1, .int .i64 0, .int .i64 0, .int .i64 0, .int .i64 0, .int .i64 0, .int .i64 0, .int .i64 0, .int .i64 0, .int .i64 0])]).run Try.prog V = .ok (.agg #[.int .i64 2, .int .i64 0, .int .i64 1, .int .i64 0, .int .i64 0, .int .i64 0, .int .i64 0, .int .i64 0, .int .i64 0, .int .i64 0, .int .i64 0, .int .i64 0, .int .i64 0]) V := by kernel_rfl
theorem aw_b7 (V : World) : (Instr.buildSlice DLT 3 #[(0, .agg #[.int .i64 1, .int .i64 0, .int .i64 0, .int .i64 0, .int .i64 1, .int .i64 0, .int .i64 0, .int .i64 0, .int .i64 0, .int .i64 0, .int .i64 0, .int .i64 0, .int .i64 0]), (1, .agg #[.int .i64 3, .int .i64 0, .int .i64 0, .int .i64 0, .int .i64 4, .int .i64 0, .int .i64 0, .int .i64 0, .int .i64 0, .int .i64 3, .int .i64 0, .int .i64 0, .int .i64 0]), (2, .agg #[.int .i64 2, .int .i64 0, .int .i64 1, .int .i64 0, .int .i64 0, .int .i64 0, .int .i64 0, .int .i64 0, .int .i64 0, .int .i64 0, .int .i64 0, .int .i64 0, .int .i64 0])]).run Try.prog V = .ok (.slice (some ⟨V.heap.size, 0, none⟩) 3 3) (V.alloc (.cells #[.int .i64 1, .int .i64 0, .int .i64 0, .int .i64 0, .int .i64 1, .int .i64 0, .int .i64 0, .int .i64 0, .int .i64 0, .int .i64 0, .int .i64 0, .int .i64 0, .int .i64 0, .int .i64 3, .int .i64 0, .int .i64 0, .int .i64 0, .int .i64 4, .int .i64 0, .int .i64 0, .int .i64 0, .int .i64 0, .int .i64 3, .int .i64 0, .int .i64 0, .int .i64 0, .int .i64 2, .int .i64 0, .int .i64 1, .int .i64 0, .int .i64 0, .int .i64 0, .int .i64 0, .int .i64 0, .int .i64 0, .int .i64 0, .int .i64 0, .int .i64 0, .int .i64 0] DTY)) := by kernel_rfl
theorem aw_b8 (V : World) : (Instr.build 34 #[]).run Try.prog V = .ok (.agg #[.int .i64 0, .int .i64 0, .int .i64 0]) V := by kernel_rfl
theorem aw_b9 (V : World) : (Instr.build DTY #[(0, .int .i64 4), (2, .int .i64 1)]).run Try.prog V = .ok (.agg #[.int .i64 4, .int .i64 0, .int .i64 0, .int .i64 0, .int .i64 0, .int .i64 0, .int .i64 0, .int .i64 0, .int .i64 0, .int .i64 0, .int .i64 0, .int .i64 0, .int .i64 1]) V := by kernel_rfl
theorem aw_b10 (V : World) : (Instr.buildSlice DLT 1 #[(0, .agg #[.int .i64 4, .int .i64 0, .int .i64 0, .int .i64 0, .int .i64 0, .int .i64 0, .int .i64 0, .int .i64 0, .int .i64 0, .int .i64 0, .int .i64 0, .int .i64 0, .int .i64 1])]).run Try.prog V = .ok (.slice (some ⟨V.heap.size, 0, none⟩) 1 1) (V.alloc (.cells #[.int .i64 4, .int .i64 0, .int .i64 0, .int .i64 0, .int .i64 0, .int .i64 0, .int .i64 0, .int .i64 0, .int .i64 0, .int .i64 0, .int .i64 0, .int .i64 0, .int .i64 1] DTY)) := by kernel_rfl
theorem aw_b11 (V : World) : (Instr.build 36 #[(1, .int .i64 5), (6, .int .i64 3)]).run Try.prog V = .ok (.agg #[.int .i64 0, .int .i64 0, .int .i64 0, .int .i64 5, .int .i64 0, .int .i64 0, .int .i64 0, .int .i64 0, .int .i64 3, .int .i64 0, .int .i64 0]) V := by kernel_rfl
set_option maxHeartbeats 16000000 in
set_option maxRecDepth 100000 in
theorem awake_any (w : World) : Calls Try.prog 14 #[] w fun e w' => e = .returned (.bool true) ∧ Below w.heap.size w w' := by
  obtain ⟨t1, t2, e1, e2, e3, e4, e5, l1⟩ := aw_vals
  have N := Lib.hid (sep_store (sep_new w))
  obtain ⟨s, hs⟩ : ∃ s, s = w.heap.size := ⟨_, rfl⟩
  rw [← hs] at N
  clear hs
  have NB := Lib.hid fun V (h : Sep w [stC s T0] V) => sep_buf h
  have AD1 : Hid (∀ V q, Sep w [buf q [], stC s T0] V → Calls Try.prog 16 #[.pointer (some ⟨q, 0, none⟩), .slice (some ⟨V.heap.size, 0, none⟩) 3 3] (V.alloc (.cells #[.int .i64 1, .int .i64 0, .int .i64 0, .int .i64 0, .int .i64 1, .int .i64 0, .int .i64 0, .int .i64 0, .int .i64 0, .int .i64 0, .int .i64 0, .int .i64 0, .int .i64 0, .int .i64 3, .int .i64 0, .int .i64 0, .int .i64 0, .int .i64 4, .int .i64 0, .int .i64 0, .int .i64 0, .int .i64 0, .int .i64 3, .int .i64 0, .int .i64 0, .int .i64 0, .int .i64 2, .int .i64 0, .int .i64 1, .int .i64 0, .int .i64 0, .int .i64 0, .int .i64 0, .int .i64 0, .int .i64 0, .int .i64 0, .int .i64 0, .int .i64 0, .int .i64 0] DTY)) fun e V' => e = .returned (.int .i64 0) ∧ Sep w [buf q [aw1, aw2, aw3], stC s T0] V') := Lib.hid fun V q hV =>
    (hV.below (bel1 V (.cells #[.int .i64 1, .int .i64 0, .int .i64 0, .int .i64 0, .int .i64 1, .int .i64 0, .int .i64 0, .int .i64 0, .int .i64 0, .int .i64 0, .int .i64 0, .int .i64 0, .int .i64 0, .int .i64 3, .int .i64 0, .int .i64 0, .int .i64 0, .int .i64 4, .int .i64 0, .int .i64 0, .int .i64 0, .int .i64 0, .int .i64 3, .int .i64 0, .int .i64 0, .int .i64 0, .int .i64 2, .int .i64 0, .int .i64 1, .int .i64 0, .int .i64 0, .int .i64 0, .int .i64 0, .int .i64 0, .int .i64 0, .int .i64 0, .int .i64 0, .int .i64 0, .int .i64 0] DTY))).add_ (A := some ⟨V.heap.size, 0, none⟩) (c := 3) (y := [aw1, aw2, aw3]) (rd_cells (at1 V _) (by rw [size1]; exact Nat.lt_succ_self _)) (by simp)
  have BL1 : Hid (∀ V q, Sep w [buf q [aw1, aw2, aw3], stC s T0] V → Calls Try.prog 18 #[.pointer (some ⟨q, 0, none⟩)] V fun e V' => e = .returned (.int .i64 3) ∧ V = V') := Lib.hid fun V q hV => hV.blen 0 rfl
  have SL1 : Hid (∀ V q, Sep w [buf q [aw1, aw2, aw3], stC s T0] V → Calls Try.prog 24 #[.pointer (some ⟨s, 0, none⟩)] V fun e V' => e = .returned (.int .i64 0) ∧ V = V') := Lib.hid fun V q hV => by
    have := hV.len 1 rfl
    rw [total_none] at this
    exact this
  have FL1 : Hid (∀ V q, Sep w [buf q [aw1, aw2, aw3], stC s T0] V → Calls Try.prog 19 #[.pointer (some ⟨q, 0, none⟩), .pointer (some ⟨s, 0, none⟩)] V fun e V' => ∃ g o c, e = .returned (.slice (some ⟨g, o, none⟩) 3 c) ∧ Sep w [rowE (.slice (some ⟨g, o, none⟩) 3 c) [0, 0, 6], stC s t1, buf q []] V') := Lib.hid fun V q hV => by
    have := (show Sep w [stC s T0, buf q [aw1, aw2, aw3]] V from hV.pull 1 rfl).flush le_none (by simp)
    rw [e1, e2] at this
    refine this.mono fun e V' ⟨A, c, h1, h2⟩ => ?_
    obtain ⟨g, o, rfl, _⟩ := num_at' (h2.rows 0 rfl) (j := 0) rfl
    exact ⟨g, o, c, h1, h2⟩
  have GT : Hid (∀ V q r, Sep w [r, stC s t1, buf q []] V → Calls Try.prog 25 #[.pointer (some ⟨s, 0, none⟩), .agg #[.int .i64 0, .int .i64 0, .int .i64 0]] V fun e V' => e = .returned (.tuple #[.agg #[.int .i64 0, .int .i64 0, .int .i64 0, .int .i64 5, .int .i64 0, .int .i64 0, .int .i64 0, .int .i64 0, .int .i64 3, .int .i64 0, .int .i64 0], .bool true]) ∧ Sep w [box V'.heap.size (.cells #[.int .i64 0, .int .i64 0, .int .i64 0, .int .i64 5, .int .i64 0, .int .i64 0, .int .i64 0, .int .i64 0, .int .i64 3, .int .i64 0, .int .i64 0] 36), r, stC s t1, buf q []] (V'.alloc (.cells #[.int .i64 0, .int .i64 0, .int .i64 0, .int .i64 5, .int .i64 0, .int .i64 0, .int .i64 0, .int .i64 0, .int .i64 3, .int .i64 0, .int .i64 0] 36))) := Lib.hid fun V q r hV => by
    have := hV.sget 1 rfl 0 0 0
    rw [e3] at this
    exact this.mono fun e V' ⟨h1, h2⟩ => ⟨h1, sep_box h2 _⟩
  have AD2 : Hid (∀ V q r x (n : Nat), n = V.heap.size → Sep w [x, r, stC s t1, buf q []] V → Calls Try.prog 16 #[.pointer (some ⟨q, 0, none⟩), .slice (some ⟨n, 0, none⟩) 1 1] (V.alloc (.cells #[.int .i64 4, .int .i64 0, .int .i64 0, .int .i64 0, .int .i64 0, .int .i64 0, .int .i64 0, .int .i64 0, .int .i64 0, .int .i64 0, .int .i64 0, .int .i64 0, .int .i64 1] DTY)) fun e V' => e = .returned (.int .i64 0) ∧ Sep w [buf q [aw4], x, r, stC s t1] V') := Lib.hid fun V q r x n hn hV => by
    subst hn
    have h3 : Sep w [buf q [], x, r, stC s t1] V := hV.pull 3 rfl
    exact (h3.below (bel1 V (.cells #[.int .i64 4, .int .i64 0, .int .i64 0, .int .i64 0, .int .i64 0, .int .i64 0, .int .i64 0, .int .i64 0, .int .i64 0, .int .i64 0, .int .i64 0, .int .i64 0, .int .i64 1] DTY))).add_ (A := some ⟨V.heap.size, 0, none⟩) (c := 1) (y := [aw4]) (rd_cells (at1 V _) (by rw [size1]; exact Nat.lt_succ_self _)) (by simp)
  have FL2 : Hid (∀ V q r x, Sep w [buf q [aw4], x, r, stC s t1] V → Calls Try.prog 19 #[.pointer (some ⟨q, 0, none⟩), .pointer (some ⟨s, 0, none⟩)] V fun e V' => ∃ g o c, e = .returned (.slice (some ⟨g, o, none⟩) 1 c) ∧ Sep w [rowE (.slice (some ⟨g, o, none⟩) 1 c) [1], stC s t2, buf q [], x, r] V') := Lib.hid fun V q r x hV => by
    have := (show Sep w [stC s t1, buf q [aw4], x, r] V from hV.pull 3 rfl).flush l1 (by simp)
    rw [e4, e5] at this
    refine this.mono fun e V' ⟨A, c, h1, h2⟩ => ?_
    obtain ⟨g, o, rfl, _⟩ := num_at' (h2.rows 0 rfl) (j := 0) rfl
    exact ⟨g, o, c, h1, h2⟩
  have BL2 : Hid (∀ V q r x y, Sep w [r, stC s t2, buf q [], x, y] V → Calls Try.prog 18 #[.pointer (some ⟨q, 0, none⟩)] V fun e V' => e = .returned (.int .i64 0) ∧ V = V') := Lib.hid fun V q r x y hV => hV.blen 2 rfl
  have EN : Hid (∀ V q g o c g2 o2 c2 z, Sep w [rowE (.slice (some ⟨g2, o2, none⟩) 1 c2) [1], stC s t2, buf q [], box z (.cells #[.int .i64 0, .int .i64 0, .int .i64 0, .int .i64 5, .int .i64 0, .int .i64 0, .int .i64 0, .int .i64 0, .int .i64 3, .int .i64 0, .int .i64 0] 36), rowE (.slice (some ⟨g, o, none⟩) 3 c) [0, 0, 6]] V → (V.cell? ⟨g2, o2, none⟩ = some (.int .i64 1) ∧ V.cell? ⟨g, o, none⟩ = some (.int .i64 0) ∧ V.cell? ⟨g, o + 1, none⟩ = some (.int .i64 0) ∧ V.cell? ⟨g, o + 2, none⟩ = some (.int .i64 6)) ∧ V.heap[z]? = some (.cells #[.int .i64 0, .int .i64 0, .int .i64 0, .int .i64 5, .int .i64 0, .int .i64 0, .int .i64 0, .int .i64 0, .int .i64 3, .int .i64 0, .int .i64 0] 36 (0, 0))) := Lib.hid fun V q g o c g2 o2 c2 z hV => by
    refine ⟨⟨?_, ?_, ?_, ?_⟩, hV.held 3 rfl⟩
    · obtain ⟨_, _, e, _, _, h⟩ := num_at' (hV.rows 0 rfl) (j := 0) rfl
      cases e; exact h
    · obtain ⟨_, _, e, _, _, h⟩ := num_at' (hV.rows 4 rfl) (j := 0) rfl
      cases e; exact h
    · obtain ⟨_, _, e, _, _, h⟩ := num_at' (hV.rows 4 rfl) (j := 1) rfl
      cases e; exact h
    · obtain ⟨_, _, e, _, _, h⟩ := num_at' (hV.rows 4 rfl) (j := 2) rfl
      cases e; exact h
  have EQ := eq_bundle 0 0 0 5 0 0 0 0 3 0 0 0 0 0 5 0 0 0 0 3 0 0
  simp at EQ
  clear e1 e2 e3 e4 e5 l1
  generalize (T0 : Tb) = t0 at *
  have b0_ := aw_b0
  have b1_ := aw_b1
  have b2_ := aw_b2
  have b3_ := aw_b3
  have b4_ := aw_b4
  have b5_ := aw_b5
  have b6_ := aw_b6
  have b7_ := aw_b7
  have b8_ := aw_b8
  have b9_ := aw_b9
  have b10_ := aw_b10
  have b11_ := aw_b11
  go_enter Try.func14, Try.ntmps14
  go_wp2_with (first
    | (go_at_call 9; refine N.out.mono ?_; rintro e w1 ⟨rfl, h1⟩; clear N)
    | (go_at_call 15; refine (NB.out _ h1).mono ?_; rintro e w2 ⟨rfl, h2⟩; clear NB h1; generalize w1.heap.size = q at *)
    | (go_at_call 16; refine (AD1.out _ _ h2).mono ?_; rintro e w3 ⟨rfl, h3⟩; clear AD1 h2)
    | (go_at_call 18; refine (BL1.out _ _ h3).mono ?_; rintro e w4 ⟨rfl, rfl⟩; clear BL1)
    | (go_at_call 24; refine (SL1.out _ _ h3).mono ?_; rintro e w5 ⟨rfl, rfl⟩; clear SL1)
    | (go_at_call 19; refine (FL1.out _ _ h3).mono ?_; rintro e w6 ⟨g, o, c, rfl, h6⟩; clear FL1 h3)
    | (go_at_call 25; refine (GT.out _ _ _ h6).mono ?_; rintro e w7 ⟨rfl, h7⟩; clear GT h6)
    | (go_at_call 16; refine (AD2.out _ _ _ _ _ (by rw [size1]) h7).mono ?_; rintro e w8 ⟨rfl, h8⟩; clear AD2 h7)
    | (go_at_call 19; refine (FL2.out _ _ _ _ h8).mono ?_; rintro e w9 ⟨g2, o2, c2, rfl, h9⟩; clear FL2 h8; obtain ⟨⟨n0, n1, n2, n3⟩, HB⟩ := EN.out _ _ _ _ _ _ _ _ _ h9; obtain ⟨⟨m0, m1, m2, m3, m4, m5, m6, m7, m8, m9, m10⟩, _⟩ := Bx.b11 HB; clear HB EN)
    | (go_at_call 18; refine (BL2.out _ _ _ _ _ h9).mono ?_; rintro e w10 ⟨rfl, rfl⟩; clear BL2))
  go_ret
  exact ⟨rfl, h9.bel⟩
end Go.Proofs.Yteollbioeamciaa
