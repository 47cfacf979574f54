/- alike: do both tell the same? -/
import Derived.Test.YtdanpdlbbgcidaaIdStep
namespace Go.Proofs.Ytdanpdlbbgcidaa
open Go.RowKit Ids
set_option linter.unusedVariables false

/-- a row of names that the call made -/
def OwnIP (l : List I3) : Og.Ph := fun v W => OwnI W 0 v l
theorem ownIP_lasts (l : List I3) : Og.Lasts grows (OwnIP l) := fun v W W' h hr => Rw.below h hr
theorem ownIP_noBool (l : List I3) : Og.NoBool (OwnIP l) := fun b W h => by
  obtain ⟨A, c, e⟩ := Rw.form h
  cases e
/-- the same row, as it is from k on -/
def RowT (W : World) (A : Option Addr) (B : Nat) (l : List I3) (k : Nat) : Prop :=
  k < l.length → ∃ g o cur, A = some ⟨g, o, none⟩ ∧ B ≤ g ∧ W.heap[g]? = some (.cells cur 33 (0, 0)) ∧ ∀ (j : Nat) (x : I3), k ≤ j → l[j]? = some x → ∀ (c : Nat) (u : Value), (idE x)[c]? = some u → cur[o + (j * 3 + c)]? = some u
theorem rowt_start {W : World} {A : Option Addr} {B c : Nat} {l : List I3} (h : OwnI W B (.slice A l.length c) l) : RowT W A B l 0 := fun h0 => by
  rcases h with ⟨e, rfl⟩ | ⟨g, o, cap, cur, e, h1, h2, _, _, _, h3⟩
  · simp at h0
  · cases e
    exact ⟨g, o, cur, rfl, h1, h2, fun j x _ => h3 j x⟩
theorem rowt_below {W W' : World} {A : Option Addr} {B k : Nat} {l : List I3} (h : RowT W A B l k) (hb : Below W.heap.size W W') : RowT W' A B l k := fun hk => by
  obtain ⟨g, o, cur, e, h1, h2, h3⟩ := h hk
  exact ⟨g, o, cur, e, h1, (hb.block g (heap_lt h2)).trans h2, h3⟩
theorem rowt_at {W : World} {A : Option Addr} {B k : Nat} {l : List I3} (h : RowT W A B l k) (hk : k < l.length) : ∃ g o, A = some ⟨g, o, none⟩ ∧ B ≤ g ∧
    (W.cell? ⟨g, o + k * 3, none⟩ = some (.int .i64 l[k].1) ∧ W.cell? ⟨g, o + k * 3 + 1, none⟩ = some (.int .i64 l[k].2.1) ∧ W.cell? ⟨g, o + k * 3 + 2, none⟩ = some (.int .i64 l[k].2.2)) ∧
    (W.frozen? ⟨g, o + k * 3, none⟩ = false ∧ W.frozen? ⟨g, o + k * 3 + 1, none⟩ = false ∧ W.frozen? ⟨g, o + k * 3 + 2, none⟩ = false) ∧
    ∀ v0 v1 v2 : Value, RowT (((W.setCell ⟨g, o + k * 3, none⟩ v0).setCell ⟨g, o + k * 3 + 1, none⟩ v1).setCell ⟨g, o + k * 3 + 2, none⟩ v2) A B l (k + 1) := by
  obtain ⟨g, o, cur, rfl, h1, h2, h3⟩ := h hk
  have hx : l[k]? = some l[k] := List.getElem?_eq_getElem hk
  have e0 := h3 k _ (Nat.le_refl _) hx 0 _ rfl
  have e1 := h3 k _ (Nat.le_refl _) hx 1 _ rfl
  have e2 := h3 k _ (Nat.le_refl _) hx 2 _ rfl
  rw [Nat.add_zero] at e0
  rw [← Nat.add_assoc] at e1 e2
  obtain ⟨a0, b0⟩ := cell_of h2 e0
  obtain ⟨a1, b1⟩ := cell_of h2 e1
  obtain ⟨a2, b2⟩ := cell_of h2 e2
  refine ⟨g, o, rfl, h1, ⟨a0, a1, a2⟩, ⟨b0, b1, b2⟩, fun v0 v1 v2 _ => ⟨g, o, _, rfl, h1, heap_set (heap_set (heap_set h2 v0) v1) v2, fun j x hj hjx c u hu => ?_⟩⟩
  have := h3 j x (by omega) hjx c u hu
  rw [Array.getElem?_setIfInBounds_ne (by omega), Array.getElem?_setIfInBounds_ne (by omega), Array.getElem?_setIfInBounds_ne (by omega)]
  exact this
/-- who is told in the list is somebody's -/
theorem list_alive {K : St} (ok : Ok K) {x : Nat × Nat × Nat} (hx : x ∈ list K) : alive K (x.1 : Int) (x.2.1 : Int) (x.2.2 : Int) = true := by
  unfold list lst at hx
  obtain ⟨p, hp, rfl⟩ := List.mem_map.1 hx
  obtain ⟨hp1, hp2⟩ := List.mem_filter.1 hp
  have hp3 := List.mem_range.1 hp1
  obtain ⟨h1, h2, _⟩ := pos_of ok.m1 hp3
  unfold alive
  have hin : In K ((p / K.m : Nat) : Int) ((p % K.m : Nat) : Int) := ⟨Int.natCast_nonneg _, Int.ofNat_lt.2 h1, Int.natCast_nonneg _, Int.ofNat_lt.2 h2⟩
  show (if In K ((p / K.m : Nat) : Int) ((p % K.m : Nat) : Int) then _ else false) = true
  rw [if_pos hin]
  simp only [Int.toNat_natCast]
  rw [hp2]
  simp
theorem list_at {K : St} (ok : Ok K) {k : Nat} (hk : k < ((list K).map toI).length) : alive K ((list K).map toI)[k].1 ((list K).map toI)[k].2.1 ((list K).map toI)[k].2.2 = true := by
  have hk' : k < (list K).length := by simpa using hk
  have := list_alive ok (List.getElem_mem hk')
  simpa [toI] using this
set_option maxHeartbeats 16000000 in
set_option maxRecDepth 100000 in
theorem alike_any {w : World} {p : Pl} {q : RPl} {K : St} (pa : PA w p K) (ra : RA w q K) (a b c : Int) :
    Calls Try.prog 13 #[.pointer (some ⟨p.d, 0, none⟩), .pointer (some ⟨q.d, 0, none⟩), .agg #[.int .i64 a, .int .i64 b, .int .i64 c]] w fun e w' => e = .returned (.bool true) ∧ Below w.heap.size w w' := by
  have ok := pa.ok
  obtain ⟨L, hL⟩ : ∃ L, L = (list K).map toI := ⟨_, rfl⟩
  have hln : L.length ≤ 256 := by
    rw [hL, List.length_map]
    have h1 : (list K).length ≤ K.n * K.m := lst_len _ _
    have := ra.size
    omega
  have AL : Hid (∀ k (hk : k < L.length), alive K L[k].1 L[k].2.1 L[k].2.2 = true) := Lib.hid fun k hk => by
    subst hL
    exact list_at ok hk
  have LC : Hid (∀ W, Below w.heap.size w W → Calls Try.prog 21 #[.pointer (some ⟨p.d, 0, none⟩)] W fun e w' => (∃ A c, e = .returned (.slice A L.length c) ∧ OwnI w' W.heap.size (.slice A L.length c) L) ∧ Below W.heap.size W w') := Lib.hid fun W hW => by
    refine (list_any (pa.below hW)).mono ?_
    rw [← hL]
    rintro e w' ⟨⟨v, rfl, ho⟩, hb⟩
    obtain ⟨A, c, rfl⟩ := ho.form
    exact ⟨⟨A, c, rfl, ho⟩, hb⟩
  have LR : Hid (∀ W, Below w.heap.size w W → Calls Try.prog 33 #[.pointer (some ⟨q.d, 0, none⟩)] W fun e w' => (∃ A c, e = .returned (.slice A L.length c) ∧ OwnI w' W.heap.size (.slice A L.length c) L) ∧ Below W.heap.size W w') := Lib.hid fun W hW => by
    refine (rlist_any (ra.below hW)).mono ?_
    rw [← hL]
    rintro e w' ⟨⟨v, rfl, ho⟩, hb⟩
    obtain ⟨A, c, rfl⟩ := ho.form
    exact ⟨⟨A, c, rfl, ho⟩, hb⟩
  obtain ⟨h0, hb, hn, hH⟩ : ∃ h0 hb hn, head K a = (h0, hb, hn) := ⟨_, _, _, rfl⟩
  have HC : Hid (∀ W, Below w.heap.size w W → Calls Try.prog 22 #[.pointer (some ⟨p.d, 0, none⟩), .int .i64 a] W fun e w' => e = .returned (.tuple #[.int .i64 (h0 : Int), .bool hb, .int .i64 (hn : Int)]) ∧ Below W.heap.size W w') := Lib.hid fun W hW => by
    have := head_any (pa.below hW) a
    rw [hH] at this
    exact this
  have HR : Hid (∀ W, Below w.heap.size w W → Calls Try.prog 31 #[.pointer (some ⟨q.d, 0, none⟩), .int .i64 a] W fun e w' => e = .returned (.tuple #[.int .i64 (h0 : Int), .bool hb, .int .i64 (hn : Int)]) ∧ Below W.heap.size W w') := Lib.hid fun W hW => by
    have := rhead_any (ra.below hW) a
    rw [hH] at this
    exact this
  have AC : Hid (∀ W, Below w.heap.size w W → ∀ x0 x1 x2, Calls Try.prog 20 #[.pointer (some ⟨p.d, 0, none⟩), .agg #[.int .i64 x0, .int .i64 x1, .int .i64 x2]] W fun e w' => e = .returned (.bool (alive K x0 x1 x2)) ∧ Below W.heap.size W w') := Lib.hid fun W hW x0 x1 x2 => alive_any (pa.below hW) x0 x1 x2
  have AR : Hid (∀ W, Below w.heap.size w W → Calls Try.prog 34 #[.pointer (some ⟨q.d, 0, none⟩), .agg #[.int .i64 a, .int .i64 b, .int .i64 c]] W fun e w' => e = .returned (.bool (alive K a b c)) ∧ Below W.heap.size W w') := Lib.hid fun W hW => ralive_any (ra.below hW) a b c
  have GC : Hid (∀ W, Below w.heap.size w W → Calls Try.prog 24 #[.pointer (some ⟨p.d, 0, none⟩), .int .i64 a, .int .i64 b] W fun e w' => e = .returned (.int .i64 (genOf K a b : Int)) ∧ W = w') := Lib.hid fun W hW => gen_any (pa.below hW) a b
  have OR : Hid (∀ W, Below w.heap.size w W → Calls Try.prog 35 #[.pointer (some ⟨q.d, 0, none⟩), .int .i64 a, .int .i64 b] W fun e w' => e = .returned (.int .i64 (genOf K a b : Int)) ∧ W = w') := Lib.hid fun W hW => rof_any (ra.below hW) a b
  have AC2 : Hid (∀ W, Below w.heap.size w W → ∀ k (hk : k < L.length), Calls Try.prog 20 #[.pointer (some ⟨p.d, 0, none⟩), .agg #[.int .i64 L[k].1, .int .i64 L[k].2.1, .int .i64 L[k].2.2]] W fun e w' => e = .returned (.bool true) ∧ Below W.heap.size W w') := Lib.hid fun W hW k hk => by
    have := AC.out W hW L[k].1 L[k].2.1 L[k].2.2
    rw [AL.out k hk] at this
    exact this
  have SM : Hid (∀ (W : World) (B B' : Nat) (v u : Value), OwnI W B v L → OwnI W B' u L → Calls Try.prog 32 #[v, u] W fun e w' => e = .returned (.bool true) ∧ Below W.heap.size W w') := Lib.hid fun W B B' v u h1 h2 => same_any h1 h2 hln
  have B1 := bel1 w (ido (a, b, c))
  have X1 : Hid (∀ W, Below (w.alloc (ido (a, b, c))).heap.size (w.alloc (ido (a, b, c))) W → W.cell? ⟨w.heap.size, 0, none⟩ = some (.int .i64 a) ∧ W.cell? ⟨w.heap.size, 1, none⟩ = some (.int .i64 b) ∧ W.cell? ⟨w.heap.size, 2, none⟩ = some (.int .i64 c)) := Lib.hid fun W hW => (box3 ((hW.block _ (heap_lt (at1 w _))).trans (at1 w (ido (a, b, c))))).1
  obtain ⟨w1, hw1⟩ : ∃ w1, w1 = w.alloc (ido (a, b, c)) := ⟨_, rfl⟩
  rw [← hw1] at B1 X1
  replace B1 := Lib.hid B1
  have LC1 := Lib.hid (LC.out w1 B1.out)
  obtain ⟨k0, k1, k2⟩ := X1.out w1 (Below.refl _ _)
  have y0 : ((h0 : Int) != (h0 : Int)) = false := by simp
  have y1 : (hb != hb) = false := by simp
  have y2 : ((hn : Int) != (hn : Int)) = false := by simp
  have y3 : (alive K a b c != alive K a b c) = false := by simp
  have y4 : ((genOf K a b : Int) != (genOf K a b : Int)) = false := by simp
  replace AC : Hid (∀ W, Below w.heap.size w W → Calls Try.prog 20 #[.pointer (some ⟨p.d, 0, none⟩), .agg #[.int .i64 a, .int .i64 b, .int .i64 c]] W fun e w' => e = .returned (.bool (alive K a b c)) ∧ Below W.heap.size W w') := Lib.hid fun W hW => AC.out W hW a b c
  clear pa ra ok hH hL AL
  generalize alive K a b c = z3 at *
  generalize (genOf K a b : Int) = z4 at *
  generalize (h0 : Int) = z0 at *
  generalize (hn : Int) = z2 at *
  go_enter Try.func13, Try.ntmps13
  go_upto_region 4 with (first
    | (go_at_call 21; rw [← hw1]; refine LC1.out.mono ?_; rintro e w2 ⟨⟨A, cp, rfl, ho⟩, hb2⟩; have HO2 := Lib.hid ho; have B2 := Lib.hid hb2; clear ho hb2 LC1 k0 k1 k2; obtain ⟨k0, k1, k2⟩ := X1.out w2 B2.out)
    | (go_at_call 22; refine (HC.out w2 (B1.out.trans (B2.out.mono B1.out.size))).mono ?_; rintro e w3 ⟨rfl, hb3⟩; have HO3 := Lib.hid (Rw.below HO2.out hb3); have B3 := Lib.hid (B2.out.trans (hb3.mono B2.out.size)); clear hb3 HC k0 k1 k2 HO2 B2; obtain ⟨k0, k1, k2⟩ := X1.out w3 B3.out)
    | (go_at_call 31; refine (HR.out w3 (B1.out.trans (B3.out.mono B1.out.size))).mono ?_; rintro e w4 ⟨rfl, hb4⟩; have HO4 := Lib.hid (Rw.below HO3.out hb4); have B4 := Lib.hid (B3.out.trans (hb4.mono B3.out.size)); clear hb4 HR k0 k1 k2 HO3 B3))
  have BP : ∀ p : Lat grows w4, Below w.heap.size w p.W := fun p => B1.out.trans ((B4.out.trans ((lat_below p).mono B4.out.size)).mono B1.out.size)
  have k0' : ∀ p : Lat grows w4, p.W.cell? ⟨w.heap.size, 0, none⟩ = some (.int .i64 a) := fun p => (X1.out _ (B4.out.trans ((lat_below p).mono B4.out.size))).1
  have k1' : ∀ p : Lat grows w4, p.W.cell? ⟨w.heap.size, 1, none⟩ = some (.int .i64 b) := fun p => (X1.out _ (B4.out.trans ((lat_below p).mono B4.out.size))).2.1
  have k2' : ∀ p : Lat grows w4, p.W.cell? ⟨w.heap.size, 2, none⟩ = some (.int .i64 c) := fun p => (X1.out _ (B4.out.trans ((lat_below p).mono B4.out.size))).2.2
  have LRP : Hid (∀ p : Lat grows w4, Calls Try.prog 33 #[.pointer (some ⟨q.d, 0, none⟩)] p.W fun e w' => ∃ v, e = .returned v ∧ grows.r p.W w' ∧ OwnIP L v w') := Lib.hid fun p' => (LR.out _ (BP p')).mono fun e w' ⟨⟨A, c, h1, h2⟩, h3⟩ => ⟨_, h1, h3, Rw.base h2 (Nat.zero_le _)⟩
  have SMP : Hid (∀ (p : Lat grows w4) (v : Value), OwnIP L v p.W → Calls Try.prog 32 #[.slice A L.length cp, v] p.W fun e w' => e = .returned (.bool true) ∧ Below p.W.heap.size p.W w') := Lib.hid fun p' v hv => SM.out p'.W _ _ _ _ (Rw.below HO4.out (lat_below p')) hv
  have ACP : Hid (∀ p : Lat grows w4, Below w.heap.size w p.W) := Lib.hid BP
  clear BP
  refine Og.grow 44 (by kernel_rfl) (by kernel_rfl) fun hc hf => ?_
  clear hc hf
  simp only [List.take_succ_cons, List.take_zero, List.drop_succ_cons, List.drop_zero]
  iterate 2 (refine Og.det [] rfl (fun J hJ => ?_); go_simp; refine hJ _ _ ?_; clear hJ J)
  refine Og.such 35 (OwnIP L) [] rfl (ownIP_lasts L) (ownIP_noBool L) (fun J hJ => ?_)
  go_simp
  refine ⟨fun p => LRP.out p, hJ _ _ ?_⟩
  clear hJ J
  refine Og.det [(35, OwnIP L)] rfl (fun J hJ => ?_)
  go_simp
  refine ⟨_, fun p v hv => Og.lays (SMP.out p v hv), hJ _ _ ?_⟩
  clear hJ J
  iterate 19 (refine Og.det [] rfl (fun J hJ => ?_); go_simp; refine hJ _ _ ?_; clear hJ J)
  refine Og.det [] rfl (fun J hJ => ?_)
  go_simp
  with_reducible refine ⟨_, fun p => Og.lays (AC.out _ (ACP.out p)), hJ _ _ ?_⟩
  clear hJ J
  iterate 2 (refine Og.det [] rfl (fun J hJ => ?_); go_simp; refine hJ _ _ ?_; clear hJ J)
  refine Og.det [] rfl (fun J hJ => ?_)
  go_simp
  with_reducible refine ⟨_, fun p => Og.lays (AR.out _ (ACP.out p)), hJ _ _ ?_⟩
  clear hJ J
  iterate 8 (refine Og.det [] rfl (fun J hJ => ?_); go_simp; refine hJ _ _ ?_; clear hJ J)
  refine Og.det [] rfl (fun J hJ => ?_)
  go_simp
  with_reducible refine ⟨_, fun p => Og.same (GC.out _ (ACP.out p)), hJ _ _ ?_⟩
  clear hJ J
  iterate 5 (refine Og.det [] rfl (fun J hJ => ?_); go_simp; refine hJ _ _ ?_; clear hJ J)
  refine Og.det [] rfl (fun J hJ => ?_)
  go_simp
  with_reducible refine ⟨_, fun p => Og.same (OR.out _ (ACP.out p)), hJ _ _ ?_⟩
  clear hJ J
  iterate 2 (refine Og.det [] rfl (fun J hJ => ?_); go_simp; refine hJ _ _ ?_; clear hJ J)
  refine Og.fin fun W hW => ?_
  simp only [Og.opened_cons, Og.opened_nil]
  intro v35 _
  have B5 := Lib.hid (B1.out.trans ((B4.out.trans (hW.mono B4.out.size)).mono B1.out.size))
  have RT := Lib.hid (rowt_start (B := w.heap.size) (Rw.base (Rw.below HO4.out hW) B1.out.size))
  clear hW HO4 B4 LRP SMP ACP GC OR AR k0' k1' k2' X1
  go_wp2
  go_loopw [14] (fun i wr => ∃ k : Nat, k ≤ L.length ∧ i = .int .i64 k ∧ Hid (Below w.heap.size w wr) ∧ Hid (RowT wr A w.heap.size L k)) (fun i _ => L.length - (intOf i).toNat)
  case atStart => exact ⟨0, Nat.zero_le _, rfl, B5, RT⟩
  case round =>
    obtain ⟨k, hk, rfl, HB, HT⟩ := hrel
    clear B5 RT
    have hk256 : (L.length : Int) ≤ 256 := by omega
    by_cases hkl : k < L.length
    · have t1 : (k : Int) < (L.length : Int) := by omega
      have A2 := Lib.hid (AC2.out wr HB.out k hkl)
      obtain ⟨g, o, rfl, hg, ⟨a0, a1, a2⟩, _, _⟩ := rowt_at HT.out hkl
      have NX : Hid (∀ W, Below wr.heap.size wr W → (W.frozen? ⟨g, o + k * 3, none⟩ = false ∧ W.frozen? ⟨g, o + k * 3 + 1, none⟩ = false ∧ W.frozen? ⟨g, o + k * 3 + 2, none⟩ = false) ∧ (W.cell? ⟨g, o + k * 3, none⟩ = some (.int .i64 L[k].1) ∧ W.cell? ⟨g, o + k * 3 + 1, none⟩ = some (.int .i64 L[k].2.1) ∧ W.cell? ⟨g, o + k * 3 + 2, none⟩ = some (.int .i64 L[k].2.2)) ∧
          Hid (Hid (Below w.heap.size w (((W.setCell ⟨g, o + k * 3, none⟩ (.int .i64 (-1))).setCell ⟨g, o + k * 3 + 1, none⟩ (.int .i64 0)).setCell ⟨g, o + k * 3 + 2, none⟩ (.int .i64 0))) ∧ Hid (RowT (((W.setCell ⟨g, o + k * 3, none⟩ (.int .i64 (-1))).setCell ⟨g, o + k * 3 + 1, none⟩ (.int .i64 0)).setCell ⟨g, o + k * 3 + 2, none⟩ (.int .i64 0)) (some ⟨g, o, none⟩) w.heap.size L (k + 1)))) := Lib.hid fun W hW => by
        obtain ⟨g', o', e, _, q1, q2, q3⟩ := rowt_at (rowt_below HT.out hW) hkl
        cases e
        exact ⟨q2, q1, Lib.hid ⟨Lib.hid ((((HB.out.trans (hW.mono HB.out.size)).setCell hg _).setCell hg _).setCell hg _), Lib.hid (q3 _ _ _)⟩⟩
      clear AC2 HT LC LR SM HB
      generalize L[k].1 = x0 at *
      generalize L[k].2.1 = x1 at *
      generalize L[k].2.2 = x2 at *
      generalize L.length = n at *
      go_wp2_with (go_at_call 20; refine A2.out.mono ?_; rintro e w5 ⟨rfl, hb5⟩; obtain ⟨⟨f0, f1, f2⟩, ⟨d0, d1, d2⟩, NN⟩ := NX.out w5 hb5; clear hb5 NX A2 a0 a1 a2)
      trace_state
      go_roundw
      case rel => exact ⟨k + 1, by omega, by go_num, NN.out⟩
      case measure => simp [intOf]; omega
    · have t1 : ¬ (k : Int) < (L.length : Int) := by omega
      clear AC2 HT
      go_wp2_with (first
        | (go_at_call 21; refine (LC.out wr HB.out).mono ?_; rintro e w6 ⟨⟨A6, c6, rfl, h6⟩, hb6⟩; have HO6 := Lib.hid h6; have B6 := Lib.hid hb6; clear h6 hb6 LC)
        | (go_at_call 33; refine (LR.out w6 (HB.out.trans (B6.out.mono HB.out.size))).mono ?_; rintro e w7 ⟨⟨A7, c7, rfl, h7⟩, hb7⟩; have HO7 := Lib.hid h7; have HO8 := Lib.hid (Rw.below HO6.out hb7); have B7 := Lib.hid (B6.out.trans (hb7.mono B6.out.size)); clear h7 hb7 LR HO6 B6)
        | (go_at_call 32; refine (SM.out w7 _ _ _ _ HO8.out HO7.out).mono ?_; rintro e w8 ⟨rfl, hb8⟩; have B8 := Lib.hid (B7.out.trans (hb8.mono B7.out.size)); clear hb8 SM HO7 HO8 B7))
      go_ret
      exact ⟨rfl, HB.out.trans (B8.out.mono HB.out.size)⟩
end Go.Proofs.Ytdanpdlbbgcidaa
