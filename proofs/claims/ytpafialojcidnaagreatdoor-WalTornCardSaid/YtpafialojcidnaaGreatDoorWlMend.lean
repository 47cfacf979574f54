/- wal's mend. -/
import Derived.Test.YtpafialojcidnaaGreatDoorWlBack
namespace Go.Proofs.YtpafialojcidnaaGreatDoor
open Go.RowKit Go.Shelf Go.Maps Dk
open Wl (Lo)
set_option linter.unusedVariables false
attribute [local go_sem] Oper.semAt_some

/-! ### a disk whose map lies low -/
def DLow (W : World) (B d : Nat) (K : St) (M : Nat) : Prop := ∃ φ mv, Lay W B d K φ mv ∧ ∀ m, mv = .map (some m) → m < M
theorem DLow.disk {W : World} {B d M : Nat} {K : St} (h : DLow W B d K M) : DiskAt W B d K := let ⟨φ, mv, h, _⟩ := h; ⟨φ, mv, h⟩
theorem DLow.of {W : World} {B d : Nat} {K : St} (h : DiskAt W B d K) : DLow W B d K W.heap.size := by
  obtain ⟨φ, mv, h⟩ := h
  refine ⟨φ, mv, h, fun m hm => ?_⟩
  subst hm
  obtain ⟨_, es, c, h4⟩ := h.map.block
  exact heap_lt h4
theorem Lay.still {W W' : World} {B d : Nat} {K : St} {φ : Str → Nat × Value} {mv : Value} (h : Lay W B d K φ mv) (hc : ∀ (b : Nat) (cs : Array Value) (T : TypeId) (fr : Nat × Nat), W.heap[b]? = some (Obj.cells cs T fr) → W'.heap[b]? = W.heap[b]?) (hm : ∀ m, mv = .map (some m) → W'.heap[m]? = W.heap[m]?) : Lay W' B d K φ mv :=
  ⟨h.ok, h.base, (hc _ _ _ _ h.box).trans h.box, h.map.kept hm, fun f hf => (h.file f hf).kept fun b hb => by
    obtain ⟨_, cs, T, h2, _⟩ := (h.file f hf).of hb
    exact hc _ _ _ _ h2, h.apart⟩
theorem DLow.grown {W W' : World} {B d M : Nat} {K : St} {row : Option Nat} (h : DLow W B d K M) (hg : W.grownBy W' row) (hr : ∀ r, row = some r → M ≤ r ∧ ∃ o : Obj, W.heap[r]? = some o ∧ o.isCells = false) : DLow W' B d K M := by
  obtain ⟨φ, mv, h, hm⟩ := h
  refine ⟨φ, mv, h.still (fun b cs T fr hb => hg.block b (heap_lt hb) fun e => ?_) (fun m e => ?_), hm⟩
  · obtain ⟨_, o, ho, hc⟩ := hr b e.symm
    rw [hb] at ho
    cases ho
    cases hc
  · subst e
    obtain ⟨_, es, c, h4⟩ := h.map.block
    exact hg.block m (heap_lt h4) fun e => by have := (hr m e.symm).1; have := hm m rfl; omega
theorem DLow.below {W W' : World} {B d M : Nat} {K : St} (h : DLow W B d K M) (hb : Below W.heap.size W W') : DLow W' B d K M := h.grown (below_grown hb) (fun r e => by cases e)
theorem low_remove (w : World) {B d M : Nat} {K : St} (h : DLow w B d K M) (s : Str) (hs : s.length ≤ 140737488351232) :
    Calls Tryz.prog 42 #[.pointer (some ⟨d, 0, none⟩), .string ⟨s.toArray⟩] w fun e w' => e = .returned (.int .i64 ((Dk.remove K s).2 : Nat)) ∧ DLow w' B d (Dk.remove K s).1 M ∧ Gone isRef B w w' ∧ KeepsFrom M w w' := by
  obtain ⟨φ, mv, hL, hm⟩ := h
  have c0 : w.cell? ⟨d, 0, none⟩ = some mv := (box4 hL.box).1.1
  refine (remove_any w ⟨φ, mv, hL⟩ s hs).mono ?_
  rintro e w' ⟨h1, ⟨φ', mv', hL'⟩, h3, h4⟩
  have hd : w'.heap[d]? = w.heap[d]? := h4 d hL.lt fun e => by
    rw [c0] at e
    exact hL.d_m (Option.some.inj e) rfl
  have hmv : mv' = mv := by
    have := hL'.box
    rw [hd, hL.box] at this
    injection this with this
    injection this with this
    have := congrArg (fun a => a[0]?) this
    simpa using this.symm
  subst hmv
  refine ⟨h1, ⟨φ', mv', hL', hm⟩, h3, h3.size, fun k o hk ho hc => ?_⟩
  refine (h4 k (heap_lt ho) fun e => ?_).trans ho
  rw [c0] at e
  have := hm k (Option.some.inj e)
  omega

/-- what a disk is laid in -/
def isDd : Obj → Bool
  | .cells _ T _ => T == 65 || T == 70 || T == 5
  | .map .. => true
  | _ => false
theorem Lay.dd {W W' : World} {B d : Nat} {K : St} {φ : Str → Nat × Value} {mv : Value} (h : Lay W B d K φ mv) (hk : Kp isDd W W') : Lay W' B d K φ mv :=
  ⟨h.ok, h.base, hk _ _ h.box rfl, h.map.kept fun m hm => by
    subst hm
    obtain ⟨_, es, c, h4⟩ := h.map.block
    rw [h4]
    exact hk _ _ h4 rfl, fun f hf => (h.file f hf).kept fun b hb => by
    obtain ⟨_, cs, T, h2, h3⟩ := (h.file f hf).of hb
    rw [h2]
    exact hk b _ h2 (by rcases h3 with rfl | rfl <;> rfl), h.apart⟩
theorem Wa.past {w W W' : World} {B d : Nat} {K : St} (h : Wa w B d K W) (hk : Kp isDd W W') (hb : Below w.heap.size W W') : Wa w B d K W' :=
  Lib.hid ⟨let ⟨φ, mv, x⟩ := h.dsk; ⟨φ, mv, x.dd hk⟩, h.base, ⟨h.bel.trans (hb.mono h.base), h.gone.kp.low hb⟩, h.tabs.below (hb.mono h.base) (Nat.le_refl _)⟩

/-! ### what the rounds do -/
def Kf (nm : Str) (K : St) (pre : List It) : St := pre.foldl (fun K x => (Dk.remove K (Wl.file nm x.1.2)).1) K
def Eok (nm : Str) : St → List It → Prop
  | _, [] => True
  | K, x :: xs => (Dk.remove K (Wl.file nm x.1.2)).2 = 0 ∧ Eok nm (Dk.remove K (Wl.file nm x.1.2)).1 xs
theorem Kf_snoc (nm : Str) (K : St) (pre : List It) (x : It) : Kf nm K (pre ++ [x]) = (Dk.remove (Kf nm K pre) (Wl.file nm x.1.2)).1 := by simp [Kf, List.foldl_append]
theorem Eok.snoc {nm : Str} {x : It} : ∀ {pre : List It} {K : St}, Eok nm K pre → (Dk.remove (Kf nm K pre) (Wl.file nm x.1.2)).2 = 0 → Eok nm K (pre ++ [x])
  | [], _, _, h => ⟨h, trivial⟩
  | _ :: pre, _, h1, h2 => ⟨h1.1, Eok.snoc (pre := pre) h1.2 h2⟩
theorem Eok.last {nm : Str} {x : It} : ∀ {pre : List It} {K : St}, Eok nm K (pre ++ [x]) → (Dk.remove (Kf nm K pre) (Wl.file nm x.1.2)).2 = 0
  | [], _, h => h.1
  | _ :: pre, _, h => Eok.last (pre := pre) h.2
theorem Eok.front {nm : Str} {q : List It} : ∀ {pre : List It} {K : St}, Eok nm K (pre ++ q) → Eok nm K pre
  | [], _, _ => trivial
  | _ :: pre, _, h => ⟨h.1, Eok.front (pre := pre) h.2⟩
theorem rem_eok {nm : Str} : ∀ {xs : List It} {K K1 : St}, Wl.Rem nm K (xs.map fun x => x.1.2) K1 → Eok nm K xs ∧ Kf nm K xs = K1
  | [], _, _, h => ⟨trivial, h⟩
  | x :: xs, K, K1, ⟨K2, e, h⟩ => by
    obtain ⟨h1, h2⟩ := rem_eok (xs := xs) h
    refine ⟨⟨by rw [e], by rw [e]; exact h1⟩, ?_⟩
    show Kf nm (Dk.remove K (Wl.file nm x.1.2)).1 xs = K1
    rw [e]; exact h2

theorem KeepsFrom.below' {B : Nat} {W W' : World} (h : Below W.heap.size W W') : KeepsFrom B W W' := ⟨h.size, fun k o _ hk _ => (h.block k (heap_lt hk)).trans hk⟩
/-- between two rounds -/
def Mid (nm : Str) (K : St) (B d : Nat) (W0 : World) (pre : List It) (W : World) : Prop := Eok nm K pre ∧ DLow W B d (Kf nm K pre) W0.heap.size ∧ Gone isRef B W0 W
theorem Mid.own {nm : Str} {K : St} {B d : Nat} {W0 : World} (hB : B ≤ W0.heap.size) : OwnFrom W0.heap.size (Mid nm K B d W0) := by
  intro s W W' row ⟨h1, h2, h3⟩ hg hr
  refine ⟨h1, h2.grown hg hr, h3.bel.grown hg (Nat.le_trans hB h3.size) (fun k e => Nat.le_trans hB (hr k e).1), fun i o hi ho => ?_⟩
  have := h3.kp i o hi ho
  exact (hg.block i (heap_lt this) fun e => by have := (hr i e.symm).1; have := heap_lt hi; omega).trans this

set_option maxHeartbeats 16000000 in
set_option maxRecDepth 100000 in
theorem mend_any {w W : World} {B b d : Nat} {g : Lo} {K K1 K2 K3 : St} (h : Wa w B d K W) (hl : LogAt W B b d g) (hnm : g.nm.length ≤ 16) (hlast : g.last ≤ 99999999) (A : Option Addr) (n cap : Nat) (zs : List It) (hz : ItsAt W A n cap zs) (hn : n ≤ 1000) (fin : Nat) (hfin : fin ≤ 4194304)
    (hr : Wl.Rem g.nm K (zs.reverse.map fun x => x.1.2) K1) (ht : Dk.trunc K1 (Wl.file g.nm g.last) (fin : Int) = (K2, 0)) (hs : Dk.sync K2 (Wl.file g.nm g.last) = (K3, 0)) :
    Calls Tryz.prog 37 #[.pointer (some ⟨b, 0, none⟩), .slice A n cap, .int .i64 (fin : Int)] W fun x w' => x = .returned (.int .i64 0) ∧ Wa w B d K3 w' ∧ Kp isRef W w' := by
  refine (callsIn_wide (n := 9)).1 ?_
  refine callsIn_of_wp_marks Tryz.func37 rfl trivial ?_ rfl
  simp only [Tryz.ntmps37, List.size_toArray, List.length_cons, List.length_nil, Nat.reduceAdd, Nat.reduceSub, Array.replicate_succ, Array.replicate_zero, List.push_toArray, List.append_toArray, List.nil_append, List.cons_append]
  gi_wp2_with (refine ⟨trivial, ?_⟩; gi_at_call 60; refine (callsIn_wide.2 (back_any A n cap _)).mono ?_; rintro e w' ⟨rfl, rfl⟩)
  -- what lies in the three blocks
  obtain ⟨W0, hW0⟩ : ∃ W0, ((W.alloc (.cells #[.pointer (some ⟨b, 0, none⟩)] 25)).alloc (.cells #[.int .i64 0] 28)).alloc (.cells #[.slice A n cap] 38) = W0 := ⟨_, rfl⟩
  have hsz0 : W0.heap.size = W.heap.size + 3 := by rw [← hW0]; exact size3 _ _ _ _
  have hb3 : Below W.heap.size W W0 := by rw [← hW0]; exact bel3 _ _ _ _
  have hx0 : W0.heap[W.heap.size]? = some (.cells #[.pointer (some ⟨b, 0, none⟩)] 25 (0, 0)) := by rw [← hW0]; exact at3a _ _ _ _
  have hx1 : W0.heap[W.heap.size + 1]? = some (.cells #[.int .i64 0] 28 (0, 0)) := by rw [← hW0]; exact at3b _ _ _ _
  have hx2 : W0.heap[W.heap.size + 2]? = some (.cells #[.slice A n cap] 38 (0, 0)) := by rw [← hW0]; exact at3c _ _ _ _
  have hz0 := hz.kp (Kp.below (p := isRow) hb3)
  have h0 := h.below hb3
  have hl0 := hl.below hb3
  have hB0 : B ≤ W0.heap.size := h0.size
  rw [hW0]
  obtain ⟨ek, kf⟩ := rem_eok hr
  have hww := h.bel.size
  clear hW0 hr
  refine wpIn_rangeFunc_ownG (w := W0) rfl (by omega) (gf := 74) (lb := #[.pointer (some ⟨W.heap.size + 1 + 1, 0, none⟩)]) rfl trivial (enters_of Tryz.func74 (by kernel_rfl) rfl)
    (back_stops 8 (by omega) (W.heap.size + 2) A n cap zs (by omega) W0 hx2 hz0) Kp.trans (fun W1 l o o' _ ho hoc _ => Kp.put ho (by cases o <;> first | rfl | (cases hoc)) o') (Below.refl _ _) (fun _ => rfl)
    (Mid g.nm K B d W0) (fun c pre _ => c = .ret ∧ ¬ Eok g.nm K pre) (Mid.own hB0) (fun _ _ _ _ _ hs _ _ => hs)
    ⟨trivial, DLow.of h0.dsk, Gone.refl _ _ _⟩
    (fun x => { tmps := #[.pointer (some ⟨b, 0, none⟩), .slice A n cap, .int .i64 (fin : Int), .pointer (some ⟨W.heap.size, 0, none⟩), undef, undef, .pointer (some ⟨W.heap.size + 1, 0, none⟩), undef, .int .i64 (x.1.2 : Int), undef, undef, .slice A n cap, .func (.func 74) #[] #[.pointer (some ⟨W.heap.size + 1 + 1, 0, none⟩)], .int .i64 (x.1.1 : Int), .int .i64 (x.1.2 : Int), undef, undef, undef, undef, undef, undef, undef, undef, undef, undef, undef, undef, undef, undef, undef, undef, undef, undef, undef, undef, undef, undef, undef, undef, undef, undef, undef, undef], defers := [] }) ?assign ?body ?done ?stop
  case assign =>
    intro l x W K hK
    simp only [encI]
    gi_wp2
    exact hK
  case body =>
    rintro l pre ⟨⟨xi, xn⟩, hxi, hxn⟩ W1 ⟨he, hlo, hg⟩ _
    have hmx : Tryz.prog.follows .mixedOrders = true := by kernel_rfl
    dsimp only at hxi hxn ⊢
    have l1 := hl0.kp hg.kp
    have t1 := h0.tabs.below hg.bel (Nat.le_refl _)
    have q3 : W1.cell? ⟨W.heap.size, 0, none⟩ = some (.pointer (some ⟨b, 0, none⟩)) := by simp [World.cell?, hg.kp _ _ hx0 rfl]
    have q6 : W1.cell? ⟨W.heap.size + 1, 0, none⟩ = some (.int .i64 0) := by simp [World.cell?, hg.kp _ _ hx1 rfl]
    have f6 : W1.frozen? ⟨W.heap.size + 1, 0, none⟩ = false := by simp [World.frozen?, hg.kp _ _ hx1 rfl]
    have q0 := l1.disk
    have hltb : b < W1.heap.size := l1.lt
    have hlt3 : W.heap.size < W1.heap.size := heap_lt (hg.kp _ _ hx0 rfl)
    have hBW : B ≤ W1.heap.size := Nat.le_trans hB0 hg.size
    have FI := Lib.hid (fun (W2 : World) (hb : Below W1.heap.size W1 W2) => file_any W2 (l1.below hb) (t1.below hb hBW) (Nat.le_trans hBW hb.size) hnm xn hxn)
    rcases hrm : Dk.remove (Kf g.nm K pre) (Wl.file g.nm xn) with ⟨Kr, er⟩
    have RM := Lib.hid (fun (W2 : World) (hb : Below W1.heap.size W1 W2) => (low_remove W2 (hlo.below hb) (Wl.file g.nm xn) (by rw [Wl.file_len]; omega)).mono (R' := fun e w' => e = .returned (.int .i64 (er : Int)) ∧ Hid (KeepsFrom W0.heap.size W1 w' ∧ Kp isRow W1 w' ∧ DLow w' B d Kr W0.heap.size ∧ Gone isRef B W0 w')) fun e w' ⟨x1, x2, x3, x4⟩ => by
      rw [hrm] at x1 x2
      exact ⟨x1, Lib.hid ⟨(KeepsFrom.below' hb).trans x4, (Kp.below hb).trans (x3.kp.weak fun _ => row_ref), x2, (hg.below hBW hb).trans x3⟩⟩)
    have hkf : Kf g.nm K (pre ++ [⟨(xi, xn), hxi, hxn⟩]) = Kr := by rw [Kf_snoc]; dsimp only; rw [hrm]
    have HE := Lib.hid (And.intro (fun h0 : er = 0 => Eok.snoc (x := ⟨(xi, xn), hxi, hxn⟩) he (by dsimp only; rw [hrm]; exact h0)) (fun (h0 : er ≠ 0) (hb : Eok g.nm K (pre ++ [⟨(xi, xn), hxi, hxn⟩])) => h0 (by have := Eok.last hb; dsimp only at this; rw [hrm] at this; exact this)))
    have hb6 : W.heap.size + 1 < W0.heap.size := by omega
    have HX1 := Lib.hid hx1
    clear h0 hl0 hl h hz hz0 hx2 hrm he hlo l1 t1 hx1 ek hs ht
    generalize Wl.file g.nm xn = fl at *
    by_cases her : er = 0
    · subst her
      gi_wp2
      gi_region_with_o (first
        | (refine ⟨trivial, ?_⟩; gi_at_call 43; refine (CallsIn.inRound l (callsIn_wide.2 (FI.out _ (Below.d' (Below.refl _ _))))).mono ?_; rintro e w2 ⟨rfl, b2⟩; have q0' : w2.cell? ⟨b, 0, none⟩ = some (.pointer (some ⟨d, 0, none⟩)) := (b2.cell (p := ⟨b, 0, none⟩) hltb).trans q0; have q3' : w2.cell? ⟨W.heap.size, 0, none⟩ = some (.pointer (some ⟨b, 0, none⟩)) := (b2.cell (p := ⟨W.heap.size, 0, none⟩) hlt3).trans q3)
        | (refine ⟨trivial, ?_⟩; gi_at_call 42; refine (CallsIn.inRound l (callsIn_wide.2 (RM.out _ ((Below.d' (Below.refl _ _)).trans b2)))).mono ?_; rintro e w3 ⟨rfl, b3⟩))
      all_goals gi_wp2
      all_goals exact ⟨b3.out.1, b3.out.2.1, HE.out.1 trivial, by rw [hkf]; exact b3.out.2.2.1, b3.out.2.2.2⟩
    · have her' : ((er : Int) != 0) = true := by simp; omega
      gi_wp2
      gi_region_with_o (first
        | (refine ⟨trivial, ?_⟩; gi_at_call 43; refine (CallsIn.inRound l (callsIn_wide.2 (FI.out _ (Below.d' (Below.refl _ _))))).mono ?_; rintro e w2 ⟨rfl, b2⟩; have q0' : w2.cell? ⟨b, 0, none⟩ = some (.pointer (some ⟨d, 0, none⟩)) := (b2.cell (p := ⟨b, 0, none⟩) hltb).trans q0; have q3' : w2.cell? ⟨W.heap.size, 0, none⟩ = some (.pointer (some ⟨b, 0, none⟩)) := (b2.cell (p := ⟨W.heap.size, 0, none⟩) hlt3).trans q3)
        | (refine ⟨trivial, ?_⟩; gi_at_call 42; refine (CallsIn.inRound l (callsIn_wide.2 (RM.out _ ((Below.d' (Below.refl _ _)).trans b2)))).mono ?_; rintro e w3 ⟨rfl, b3⟩))
      all_goals have z6 : w3.cell? ⟨W.heap.size + 1, 0, none⟩ = some (.int .i64 0) := by simp [World.cell?, b3.out.2.2.2.kp _ _ HX1.out rfl]
      all_goals have y6 : w3.frozen? ⟨W.heap.size + 1, 0, none⟩ = false := by simp [World.frozen?, b3.out.2.2.2.kp _ _ HX1.out rfl]
      all_goals gi_wp2
      all_goals exact ⟨b3.out.1.trans ((KeepsOthers.setCell _ _ _).from _), rfl, HE.out.2 her⟩
  case done =>
    rintro D xs W1 hD rfl ⟨he, hlo, hg⟩ hK
    rw [kf] at hlo
    have l1 := hl0.kp hg.kp
    have t1 := h0.tabs.below hg.bel (Nat.le_refl _)
    have q3 : W1.cell? ⟨W.heap.size, 0, none⟩ = some (.pointer (some ⟨b, 0, none⟩)) := by simp [World.cell?, hg.kp _ _ hx0 rfl]
    have q0 := l1.disk
    have q2 := l1.last
    have hBW : B ≤ W1.heap.size := Nat.le_trans hB0 hg.size
    have hltb : b < W1.heap.size := l1.lt
    have hlt3 : W.heap.size < W1.heap.size := heap_lt (hg.kp _ _ hx0 rfl)
    have FI := Lib.hid (fun (p : Lat grows W1) => file_any p.W (l1.below p.h) (t1.below p.h hBW) (Nat.le_trans hBW p.h.size) hnm g.last hlast)
    have wa1 : Wa w B d K1 W1 := h0.go hlo.disk hg
    have TR := Lib.hid (fun (W2 : World) (hb : Below W1.heap.size W1 W2) => (at_trunc (wa1.below hb).at_ ht (by rw [Wl.file_len]; omega) ⟨by omega, by omega⟩).mono (R' := fun e w' => e = .returned (.int .i64 0) ∧ Hid (Wa w B d K2 w' ∧ Gone isRef B W0 w' ∧ Kp isRef W1 w')) fun e w' ⟨x1, x2⟩ => ⟨x1, Lib.hid ⟨(wa1.below hb).via x2, (hg.below hBW hb).trans x2.out.2.2, (Kp.below hb).trans x2.out.2.2.kp⟩⟩)
    have SY := Lib.hid (fun (W2 : World) (x : Hid (Wa w B d K2 W2 ∧ Gone isRef B W0 W2 ∧ Kp isRef W1 W2)) => (lsync_any x.out.1 (hl0.kp x.out.2.1.kp) hnm hlast hs).mono (R' := fun e w' => e = .returned (.int .i64 0) ∧ Hid (Wa w B d K3 w' ∧ Kp isRef W0 w' ∧ Kp isRef W1 w')) fun e w' ⟨x1, x2, x3⟩ => ⟨x1, Lib.hid ⟨x2, x.out.2.1.kp.trans x3, x.out.2.2.trans x3⟩⟩)
    have HX0 := Lib.hid hx0
    have HX1 := Lib.hid hx1
    have HK := Lib.hid hK
    have HG := Lib.hid hg
    clear h hl hz hz0 h0 hl0 hlo l1 t1 wa1 ek kf ht hs hg hK hx0 hx1 hx2 he
    generalize Wl.file g.nm g.last = fl at *
    generalize g.last = last at *
    gi_wp2
    refine wpIn_wide.2 ?_
    refine Og.grow 11 (by kernel_rfl) (by kernel_rfl) fun hc hf => ?_
    simp only [List.take_succ_cons, List.take_zero, List.drop_succ_cons, List.drop_zero]
    repeat (refine Og.det [] rfl (fun K hK => ?_); go_simp; first | (refine hK _ _ ?_; clear hK K) | (with_reducible refine ⟨_, fun p => Og.lays (FI.out p), hK _ _ ?_⟩; clear hK K))
    refine Og.fin fun W2 hW => ?_
    simp only [Og.opened_nil]
    clear hc hf
    have T2 := Lib.hid (TR.out _ hW)
    clear TR
    have w0b : W.heap.size + 1 < W0.heap.size := heap_lt HX1.out
    go_wp2_with fail
    refine T2.out.mono ?_
    rintro e W3 ⟨rfl, x3⟩
    have r3 : W3.cell? ⟨W.heap.size, 0, none⟩ = some (.pointer (some ⟨b, 0, none⟩)) := by simp [World.cell?, x3.out.2.1.kp _ _ HX0.out rfl]
    have S3 := Lib.hid (SY.out _ x3)
    clear SY T2
    go_wp2
    gi_wp2_with (refine ⟨trivial, ?_⟩; gi_at_call 24; refine (callsIn_wide.2 S3.out).mono ?_; rintro e W4 ⟨rfl, x4⟩; have s6 : W4.cell? ⟨W.heap.size + 1, 0, none⟩ = some (.int .i64 0) := (by simp [World.cell?, x4.out.2.1 _ _ HX1.out rfl]); have z6 : W4.frozen? ⟨W.heap.size + 1, 0, none⟩ = false := (by simp [World.frozen?, x4.out.2.1 _ _ HX1.out rfl]))
    have hK4 : (W4.setCell ⟨W.heap.size + 1, 0, none⟩ (.int .i64 0)).heap[D]? = some (.deferred (some [])) := (Below.heap_setCell _ _ _ _ (by show D ≠ W.heap.size + 1; omega)).trans (x4.out.2.2 _ _ HK.out rfl)
    have b6 := x4.out.2.1 _ _ HX1.out rfl
    have hbl : Below W.heap.size W4 ((W4.setCell ⟨W.heap.size + 1, 0, none⟩ (.int .i64 0)).putObj D (.deferred none)) := ((Below.refl _ _).setCell (p := ⟨W.heap.size + 1, 0, none⟩) (by show W.heap.size ≤ W.heap.size + 1; omega) _).trans (belowK_b (Nat.le_refl _) _ D _ _ (by omega) hK4 rfl rfl)
    have hdd : Kp isDd W4 ((W4.setCell ⟨W.heap.size + 1, 0, none⟩ (.int .i64 0)).putObj D (.deferred none)) := (Kp.set b6 rfl _).trans (Kp.put hK4 rfl _)
    have hc5 := cell_kept (World.cell?_setCell_same' W4 ⟨W.heap.size + 1, 0, none⟩ (.int .i64 0) (by rw [s6]; rfl)) (grownBy_putObj' _ D (.deferred none)) (fun r e => by cases e; exact ⟨_, hK4, rfl⟩)
    refine ⟨by simp, .inl ⟨_, _, rfl, run_takeDeferred hK4, ?_⟩⟩
    refine ⟨.int .i64 0, ?_, rfl, x4.out.1.past hdd (hbl.mono hww), (((Kp.below hb3).trans x4.out.2.1)).low hbl⟩
    simp [results, Tryz.f37, go_sem, hc5]
  case stop =>
    rintro D c pre W1 hD hpre ⟨rfl, hno⟩ hK
    obtain ⟨q, hq⟩ := hpre
    rw [← hq] at ek
    exact absurd ek.front hno
end Go.Proofs.YtpafialojcidnaaGreatDoor
