/- The document's Of, Near: what they answer. What the laws ask of the code; rows that a call made, and that stay. Written by wip/tools/gentk.py. The code: a tick. The document's Same of two rows of the same hits. Written by wip/tools/gensy.py. -/
import Derived.Test.YtljaahemlcaffaaGreatK31
import Derived.Test.YtljaahemlcaffaaGreatK30
import Derived.Test.YtljaahemlcaffaaGreatK14
import Derived.Test.YtljaahemlcaffaaGreatK13
import Derived.Test.YtljaahemlcaffaaGreatK22
import Derived.Test.YtljaahemlcaffaaGreatK23
import Derived.Test.YtljaahemlcaffaaGreatK28
import Derived.Test.YtljaahemlcaffaaGreatK26
import Derived.Test.YtljaahemlcaffaaGreatK20
namespace Go.Proofs.YtljaahemlcaffaaGreat
open Go.RowKit
open Zn (Ok There)

theorem rhas_zone_any {C R S D V k : Int} (ok : Ok C R S D V) (hk : There C R k) (x y : Int) (hx : I x) (hy : I y) (W : World) :
    Calls Tryz.prog 46 #[.agg #[.int .i64 (Zn.zone C R S k).a, .int .i64 (Zn.zone C R S k).b, .int .i64 (Zn.zone C R S k).c, .int .i64 (Zn.zone C R S k).d], .int .i64 x, .int .i64 y] W fun e w' => e = .returned (.bool (decide (Zn.of C R S x y = k))) ∧ Below W.heap.size W w' := by
  have := rhas_any (Zn.zone C R S k).a (Zn.zone C R S k).b (Zn.zone C R S k).c (Zn.zone C R S k).d x y W (zone_i ok hk).1.1 (zone_i ok hk).1.2 (zone_i ok hk).2.1 (zone_i ok hk).2.2 hx hy
  rwa [Zn.has_zone ok hk] at this

/-- the config's box -/
def RcBox (w : World) (C R S D V N Q : Int) (wr : World) : Prop := Below w.heap.size w wr ∧ wr.heap[w.heap.size]? = C7 C R S D V N Q
theorem RcBox.lt {w : World} {C R S D V N Q : Int} {wr : World} (h : RcBox w C R S D V N Q wr) : w.heap.size < wr.heap.size := (Array.getElem?_eq_some_iff.1 h.2).1
theorem RcBox.next {w : World} {C R S D V N Q : Int} {wr W : World} (h : RcBox w C R S D V N Q wr) (hb : Below wr.heap.size wr W) : RcBox w C R S D V N Q W := ⟨h.1.trans (hb.mono h.1.size), (hb.block _ h.lt).trans h.2⟩
set_option maxHeartbeats 4000000 in
set_option maxRecDepth 100000 in
theorem rof_any (C R S D V N Q x y : Int) (w : World) (ok : Ok C R S D V) (hx : I x) (hy : I y) :
    Calls Tryz.prog 23 #[.agg #[.int .i64 C, .int .i64 R, .int .i64 S, .int .i64 D, .int .i64 V, .int .i64 N, .int .i64 Q], .int .i64 x, .int .i64 y] w fun e w' => e = .returned (.int .i64 (Zn.of C R S x y)) ∧ Below w.heap.size w w' := by
  have mb := Zn.mul_bd ok
  obtain ⟨M, hM⟩ : ∃ M : Nat, C * R = (M : Int) := ⟨(C * R).toNat, by omega⟩
  have ZN := Lib.hid (fun W (m : Nat) (hm : m < M) => rzone_any C R S D V N Q (m : Int) W ok (by unfold I; omega))
  have HS := Lib.hid (fun W (m : Nat) (hm : m < M) => rhas_zone_any ok (show There C R (m : Int) from ⟨by omega, by omega⟩) x y hx hy W)
  have OB := Lib.hid (show Zn.of C R S x y = -1 ∨ (0 ≤ Zn.of C R S x y ∧ Zn.of C R S x y < M) by rcases Zn.of_bd ok x y with h | h; exact .inl h; exact .inr ⟨h.1, by have := h.2; omega⟩)
  have w0 : IntKind.i64.wrap (C * R) = (M : Int) := by rw [hM]; exact IntWalk.i64_in _ ⟨by omega, by omega⟩
  rw [hM] at mb
  clear ok hx hy hM
  generalize Zn.of C R S x y = o at *
  go_enter Tryz.func23, Tryz.ntmps23
  go_wp2
  go_loopw [7] (fun s wr => ∃ m : Nat, m ≤ M ∧ s = .int .i64 m ∧ Hid (¬ (0 ≤ o ∧ o < m)) ∧ Hid (RcBox w C R S D V N Q wr)) (fun s _ => M - (intOf s).toNat)
  case atStart => exact ⟨0, by omega, rfl, Lib.hid (by omega), Lib.hid ⟨bel1 _ _, at1 _ _⟩⟩
  case round =>
    obtain ⟨m, hm, rfl, hno, hbx⟩ := hrel
    obtain ⟨k0, k1, k2, k3, k4, k5, k6⟩ := (box7 hbx.out.2).1
    by_cases hlt : m < M
    · have Zm := Lib.hid (fun W => ZN.out W m hlt)
      have Hm := Lib.hid (fun W => HS.out W m hlt)
      clear ZN HS
      generalize (Zn.zone C R S m).a = z0 at *
      generalize (Zn.zone C R S m).b = z1 at *
      generalize (Zn.zone C R S m).c = z2 at *
      generalize (Zn.zone C R S m).d = z3 at *
      go_wp2_with fail
      refine (Zm.out _).mono ?_
      rintro e w1 ⟨rfl, b1⟩
      have X1 := Lib.hid (hbx.out.next b1)
      clear b1 k0 k1 k2 k3 k4 k5 k6
      by_cases ho : o = (m : Int)
      · rw [decide_eq_true ho] at Hm
        have HO := Lib.hid ho
        clear ho
        go_wp2_with fail
        refine (Hm.out _).mono ?_
        rintro e w2 ⟨rfl, b2⟩
        have X2 := Lib.hid (X1.out.next b2)
        go_wp2
        go_ret
        exact ⟨ret_int HO.out.symm, X2.out.1⟩
      · rw [decide_eq_false ho] at Hm
        have HO := Lib.hid ho
        clear ho
        go_wp2_with fail
        refine (Hm.out _).mono ?_
        rintro e w2 ⟨rfl, b2⟩
        have X2 := Lib.hid (X1.out.next b2)
        go_wp2
        go_roundw
        case rel => exact ⟨m + 1, by omega, by go_num, Lib.hid (by have := hno.out; have := HO.out; omega), X2⟩
        case measure => simp [intOf]; omega
    · obtain rfl : m = M := by omega
      go_wp2
      go_ret
      exact ⟨ret_int (by have := OB.out; have := hno.out; omega), hbx.out.1⟩

theorem nr_hit {C R S D x y : Int} {m : Nat} (h : Zn.nrP C R S D x y m = true) : Zn.nr C R S D x y (m + 1) = Zn.nr C R S D x y m ++ [(m : Int)] := by rw [Zn.nr_succ, if_pos h]
theorem nr_miss {C R S D x y : Int} {m : Nat} (h : Zn.nrP C R S D x y m = false) : Zn.nr C R S D x y (m + 1) = Zn.nr C R S D x y m := by rw [Zn.nr_succ, h]; simp

end Go.Proofs.YtljaahemlcaffaaGreat
namespace Go.Proofs.YtljaahemlcaffaaGreat
open Go.RowKit Pz Sp
set_option linter.unusedVariables false
set_option linter.unusedSimpArgs false

/-- what a tick leaves -/
def Left (W : World) (r : List Bn × List Bn × List K3) (e : Ending) (V : World) : Prop :=
  ∃ (B1 B2 B3 : Option Addr) (d1 d2 d3 : Nat), e = .returned (.agg #[.slice B1 r.1.length d1, .slice B2 r.2.1.length d2, .slice B3 r.2.2.length d3]) ∧ (OwnB V W.heap.size (.slice B1 r.1.length d1) r.1 ∧ OwnB V W.heap.size (.slice B2 r.2.1.length d2) r.2.1 ∧ OwnN V W.heap.size (.slice B3 r.2.2.length d3) r.2.2) ∧ Below W.heap.size W V
/-- what a tick is handed -/
structure Hand (W : World) (A A2 A3 : Option Addr) (own near : List Bn) (cs : List Cn) : Prop where
  r1 : RdB W W.heap.size A own
  r2 : RdB W W.heap.size A2 near
  r3 : RdC W W.heap.size A3 cs
  l1 : own.length ≤ 1000
  l2 : near.length ≤ 1000
  l3 : cs.length ≤ 1000
  f1 : ∀ b ∈ own, b.Fits
  f2 : ∀ b ∈ near, b.Fits
  f3 : ∀ c ∈ cs, CFit c
theorem Hand.below {W V : World} {A A2 A3 : Option Addr} {own near : List Bn} {cs : List Cn} (h : Hand W A A2 A3 own near cs) (hb : Below W.heap.size W V) : Hand V A A2 A3 own near cs :=
  ⟨(h.r1.below hb).more hb.size, (h.r2.below hb).more hb.size, (h.r3.below hb).more hb.size, h.l1, h.l2, h.l3, h.f1, h.f2, h.f3⟩
structure TkCt : Prop where
  run : ∀ (C R S D V N Q z : Int) (W : World) (q : Nat) (A A2 A3 : Option Addr) (c c2 c3 : Nat) (own near : List Bn) (cs : List Cn), MapAt W q C R S D V N Q → Zn.Ok C R S D V → Fit z → Hand W A A2 A3 own near cs → (Tk.Un own ∨ ¬ (-1 ≤ z ∧ z < C * R)) →
    Calls Tryz.prog 13 #[.pointer (some ⟨q, 0, none⟩), .int .i64 z, .slice A own.length c, .slice A2 near.length c2, .slice A3 cs.length c3] W (Left W (Tk.run C R S D V z own near cs))
  nil : ∀ (z : Int) (W : World) (A A2 A3 : Option Addr) (c c2 c3 : Nat) (own near : List Bn) (cs : List Cn), Hand W A A2 A3 own near cs →
    Calls Tryz.prog 13 #[.pointer none, .int .i64 z, .slice A own.length c, .slice A2 near.length c2, .slice A3 cs.length c3] W (Left W ([], [], []))
  awake : ∀ W : World, Calls Tryz.prog 17 #[] W fun e V => e = .returned (.bool true) ∧ Below W.heap.size W V
namespace Sp
/-- all that was made from lo on till V0 stays -/
def keepP (lo : Nat) (V0 : World) : Piece := ⟨fun F W => (∀ k, F k ↔ lo ≤ k ∧ k < V0.heap.size) ∧ V0.heap.size ≤ W.heap.size ∧ ∀ k, lo ≤ k → k < V0.heap.size → W.heap[k]? = V0.heap[k]?, fun h hs hk => ⟨h.1, Nat.le_trans h.2.1 hs, fun k a b => (hk k ((h.1 k).2 ⟨a, b⟩)).trans (h.2.2 k a b)⟩, fun h k hk => Nat.lt_of_lt_of_le ((h.1 k).1 hk).2 h.2.1⟩
end Sp
section
variable {w W V V0 : World} {L : List Piece} {lo : Nat}
theorem sep_keep (h : Sep w L W) (hb : Below W.heap.size W V) : Sep w (keepP W.heap.size V :: L) V :=
  h.add (P := keepP W.heap.size V) (G := fun k => W.heap.size ≤ k ∧ k < V.heap.size) hb ⟨fun k => Iff.rfl, Nat.le_refl _, fun _ _ _ => rfl⟩ fun k hk => hk.1
theorem Sep.keeps (h : Sep w L W) (i : Nat) (e : L[i]? = some (keepP lo V0)) : V0.heap.size ≤ W.heap.size ∧ ∀ k, lo ≤ k → k < V0.heap.size → W.heap[k]? = V0.heap[k]? := by
  obtain ⟨G, hG⟩ := h.get i e; exact hG.2
theorem Rw.kept_by {α : Type} {enc : α → List Value} {T s : Nat} {v : Value} {l : List α} (ho : Rw enc T s V0 lo v l) (h : V0.heap.size ≤ W.heap.size ∧ ∀ k, lo ≤ k → k < V0.heap.size → W.heap[k]? = V0.heap[k]?) : Rw enc T s W lo v l := ho.kept fun b hb => by
  obtain ⟨h1, cur, h2⟩ := ho.blk hb
  exact h.2 b h1 (Array.getElem?_eq_some_iff.1 h2).1
theorem Sep.readB (h : Sep w L W) (i : Nat) (e : L[i]? = some (keepP lo V0)) {A : Option Addr} {c : Nat} {l : List Bn} (ho : OwnB V0 lo (.slice A l.length c) l) : RdB W W.heap.size A l := RdB.of_own (ho.kept_by (h.keeps i e))
theorem Sep.readC (h : Sep w L W) (i : Nat) (e : L[i]? = some (keepP lo V0)) {A : Option Addr} {c : Nat} {l : List Cn} (ho : OwnC V0 lo (.slice A l.length c) l) : RdC W W.heap.size A l := RdC.of_own (ho.kept_by (h.keeps i e))
theorem Sep.readN (h : Sep w L W) (i : Nat) (e : L[i]? = some (keepP lo V0)) {A : Option Addr} {c : Nat} {l : List K3} (ho : OwnN V0 lo (.slice A l.length c) l) : RdI3 W W.heap.size A l := RdI3.of_own (ho.kept_by (h.keeps i e))
end
set_option maxHeartbeats 8000000 in
set_option maxRecDepth 100000 in
/-- two results of the same -/
theorem same_res {w : World} {r : List Bn × List Bn × List K3} {A1 A2 A3 B1 B2 B3 : Option Addr} {a1 a2 a3 b1 b2 b3 : Nat} (R1 : RdB w w.heap.size A1 r.1) (R2 : RdB w w.heap.size A2 r.2.1) (R3 : RdI3 w w.heap.size A3 r.2.2) (S1 : RdB w w.heap.size B1 r.1) (S2 : RdB w w.heap.size B2 r.2.1) (S3 : RdI3 w w.heap.size B3 r.2.2) (h1 : r.1.length ≤ 1000000) (h2 : r.2.1.length ≤ 1000000) (h3 : r.2.2.length ≤ 1000000) :
    Calls Tryz.prog 19 #[.agg #[.slice A1 r.1.length a1, .slice A2 r.2.1.length a2, .slice A3 r.2.2.length a3], .agg #[.slice B1 r.1.length b1, .slice B2 r.2.1.length b2, .slice B3 r.2.2.length b3]] w fun e w' => e = .returned (.bool true) ∧ Below w.heap.size w w' := by
  have C1 := Lib.hid fun V (hV : Below w.heap.size w V) => rsame_yes (c1 := a1) (c2 := b1) ((R1.below hV).more hV.size) ((S1.below hV).more hV.size) (by omega)
  have C2 := Lib.hid fun V (hV : Below w.heap.size w V) => rsame_yes (c1 := a2) (c2 := b2) ((R2.below hV).more hV.size) ((S2.below hV).more hV.size) (by omega)
  have C3 := Lib.hid fun V (hV : Below w.heap.size w V) => rsameids_yes (c1 := a3) (c2 := b3) ((R3.below hV).more hV.size) ((S3.below hV).more hV.size) (by omega)
  clear R1 R2 R3 S1 S2 S3 h1 h2 h3
  generalize r.1.length = n1 at *
  generalize r.2.1.length = n2 at *
  generalize r.2.2.length = n3 at *
  have H0 : Hid (Sep w [box (w.heap.size + 1) (.cells #[.slice B1 n1 b1, .slice B2 n2 b2, .slice B3 n3 b3] 51), box w.heap.size (.cells #[.slice A1 n1 a1, .slice A2 n2 a2, .slice A3 n3 a3] 35)] ((w.alloc (.cells #[.slice A1 n1 a1, .slice A2 n2 a2, .slice A3 n3 a3] 35)).alloc (.cells #[.slice B1 n1 b1, .slice B2 n2 b2, .slice B3 n3 b3] 51))) := Lib.hid (by
    have := sep_box (sep_box (sep_new w) (.cells #[.slice A1 n1 a1, .slice A2 n2 a2, .slice A3 n3 a3] 35)) (.cells #[.slice B1 n1 b1, .slice B2 n2 b2, .slice B3 n3 b3] 51)
    rw [size1] at this
    exact this)
  go_enter Tryz.func19, Tryz.ntmps19
  go_upto_region 1 with fail
  generalize (w.alloc (.cells #[.slice A1 n1 a1, .slice A2 n2 a2, .slice A3 n3 a3] 35)).alloc (.cells #[.slice B1 n1 b1, .slice B2 n2 b2, .slice B3 n3 b3] 51) = w0 at *
  obtain ⟨⟨k0, k1, k2⟩, _⟩ := Bx.b3 (H0.out.held 1 rfl)
  obtain ⟨⟨m0, m1, m2⟩, _⟩ := Bx.b3 (H0.out.held 0 rfl)
  go_wp2_with (first
    | (go_at_call 16; with_reducible refine (C1.out _ H0.out.bel).mono ?_; rintro e w1 ⟨rfl, q1⟩; clear C1 k0 k1 k2 m0 m1 m2; have H1 := Lib.hid (H0.out.below q1); clear H0 q1; obtain ⟨⟨k0, k1, k2⟩, _⟩ := Bx.b3 (H1.out.held 1 rfl); obtain ⟨⟨m0, m1, m2⟩, _⟩ := Bx.b3 (H1.out.held 0 rfl))
    | (go_at_call 16; with_reducible refine (C2.out _ H1.out.bel).mono ?_; rintro e w2 ⟨rfl, q2⟩; clear C2 k0 k1 k2 m0 m1 m2; have H2 := Lib.hid (H1.out.below q2); clear H1 q2; obtain ⟨⟨k0, k1, k2⟩, _⟩ := Bx.b3 (H2.out.held 1 rfl); obtain ⟨⟨m0, m1, m2⟩, _⟩ := Bx.b3 (H2.out.held 0 rfl))
    | (go_at_call 45; with_reducible refine (C3.out _ H2.out.bel).mono ?_; rintro e w3 ⟨rfl, q3⟩; clear C3 k0 k1 k2 m0 m1 m2; have H3 := Lib.hid (H2.out.below q3).bel; clear H2 q3))
  go_ret
  exact ⟨rfl, H3.out⟩
end Go.Proofs.YtljaahemlcaffaaGreat
namespace Go.Proofs.YtljaahemlcaffaaGreat
open Go.RowKit Pz Sp Go.Shelf
set_option linter.unusedVariables false
set_option linter.unusedSimpArgs false

theorem hits_rise {own near : List Bn} (hu : Tk.Un own) (r : Int) : (Sy.hits r own near).Pairwise fun a b => before a.1 b.1 = true := by
  unfold Sy.hits
  rw [List.pairwise_filterMap]
  refine (Tk.sort_up hu).imp fun {a b} h x hx y hy => ?_
  have k : ∀ {c : Bn} {z : HK}, Sy.hitOf r own near c = some z → z.1 = c.id := fun {c z} h => by
    unfold Sy.hitOf at h
    split at h
    · cases h; rfl
    · cases h
  rw [k hx, k hy]
  exact h
theorem hits_few (own near : List Bn) (r : Int) : (Sy.hits r own near).length ≤ own.length := by
  have h1 := List.length_filterMap_le (Sy.hitOf r own near) (sortL Bn.id own)
  rw [(Sy.sort_perm own).length_eq] at h1
  exact h1
/-- a row that lies in blocks made since -/
theorem Sep.rowsB {w W : World} {L : List Piece} {α : Type} {enc : α → List Value} {T n : Nat} {v : Value} {l : List α} (h : Sep w L W) (i : Nat) (e : L[i]? = some (row enc T n v l)) : Rw enc T n W w.heap.size v l := by
  obtain ⟨G, ⟨h1, h2⟩, h3, _⟩ := (h.pull i e).one
  rcases h1 with ⟨e, e2⟩ | ⟨g, o, cap, cur, e, q1, q⟩
  · exact .inl ⟨e, e2⟩
  · exact .inr ⟨g, o, cap, cur, e, h3 g ((h2 g).2 (by rw [e]; rfl)), q⟩
theorem left_none (W : World) {V : World} (hb : Below W.heap.size W V) : Left W ([], [], []) (.returned (.agg #[.slice none 0 0, .slice none 0 0, .slice none 0 0])) V := ⟨none, none, none, 0, 0, 0, rfl, ⟨rw_nil _ _, rw_nil _ _, rw_nil _ _⟩, hb⟩
theorem b_none (V : World) : (Instr.build 35 #[]).run Tryz.prog V = .ok (.agg #[.slice none 0 0, .slice none 0 0, .slice none 0 0]) V := by kernel_rfl
theorem b_stage (q : Nat) (z : Int) (V : World) : (Instr.build 73 #[(0, .pointer (some ⟨q, 0, none⟩)), (2, .int .i64 z)]).run Tryz.prog V = .ok (.agg #[.pointer (some ⟨q, 0, none⟩), .slice none 0 0, .slice none 0 0, .slice none 0 0, .int .i64 z]) V := by kernel_rfl
theorem Sep.set3 {w W : World} {L : List Piece} {b : Nat} {v0 v1 v2 : Value} {T : Nat} (h : Sep w (box b (.cells #[v0, v1, v2] T) :: L) W) (u0 u1 u2 : Value) : Sep w (box b (.cells #[u0, u1, u2] T) :: L) (((W.setCell ⟨b, 0, none⟩ u0).setCell ⟨b, 1, none⟩ u1).setCell ⟨b, 2, none⟩ u2) := by
  have := ((h.cell (o := 0) u0).cell (o := 1) u1).cell (o := 2) u2
  simpa using this
set_option maxHeartbeats 8000000 in
set_option maxRecDepth 100000 in
/-- of a map that is none -/
theorem crun_nil (z : Int) (W : World) (A A2 A3 : Option Addr) (n n2 n3 c c2 c3 : Nat) : Calls Tryz.prog 13 #[.pointer none, .int .i64 z, .slice A n c, .slice A2 n2 c2, .slice A3 n3 c3] W (Left W ([], [], [])) := by
  have H0 : Hid (Sep W [box (W.heap.size + 1) (.cells #[.slice none 0 0, .slice none 0 0, .slice none 0 0] 35), box W.heap.size (.cells #[.pointer none] 27)] ((W.alloc (.cells #[.pointer none] 27)).alloc (.cells #[.slice none 0 0, .slice none 0 0, .slice none 0 0] 35))) := Lib.hid (by
    have := sep_box (sep_box (sep_new W) (.cells #[.pointer none] 27)) (.cells #[.slice none 0 0, .slice none 0 0, .slice none 0 0] 35)
    rw [size1] at this
    exact this)
  have FIN := Lib.hid fun V (h : Below W.heap.size W V) => left_none W h
  generalize Left W ([], [], []) = P at *
  have bn := b_none
  go_enter Tryz.func13, Tryz.ntmps13
  go_upto_region 1 with fail
  generalize (W.alloc (.cells #[.pointer none] 27)).alloc (.cells #[.slice none 0 0, .slice none 0 0, .slice none 0 0] 35) = w0 at *
  obtain ⟨⟨_, _, _⟩, f0, f1, f2⟩ := Bx.b3 (H0.out.held 0 rfl)
  obtain ⟨m0, _⟩ := Bx.b1 (H0.out.held 1 rfl)
  have HX := Lib.hid (H0.out.set3 (.slice none 0 0) (.slice none 0 0) (.slice none 0 0))
  go_wp2
  obtain ⟨r0, r1, r2⟩ := (Bx.b3 (HX.out.held 0 rfl)).1
  exact bodyPost_ret (v := .agg #[.slice none 0 0, .slice none 0 0, .slice none 0 0]) (by simp [results, Tryz.results13, go_sem, r0, r1, r2]) rfl (FIN.out _ HX.out.bel)
set_option maxHeartbeats 8000000 in
set_option maxRecDepth 100000 in
/-- of a zone that there is not -/
theorem crun_out (cC cR cS cD cV cN cQ z : Int) (w : World) (q : Nat) (hq : MapAt w q cC cR cS cD cV cN cQ) (ok : Zn.Ok cC cR cS cD cV) (hz : ¬ (-1 ≤ z ∧ z < cC * cR)) (A A2 A3 : Option Addr) (n n2 n3 c c2 c3 : Nat) : Calls Tryz.prog 13 #[.pointer (some ⟨q, 0, none⟩), .int .i64 z, .slice A n c, .slice A2 n2 c2, .slice A3 n3 c3] w (Left w ([], [], [])) := by
  have H0 : Hid (Sep w [box (w.heap.size + 1) (.cells #[.slice none 0 0, .slice none 0 0, .slice none 0 0] 35), box w.heap.size (.cells #[.pointer (some ⟨q, 0, none⟩)] 27)] ((w.alloc (.cells #[.pointer (some ⟨q, 0, none⟩)] 27)).alloc (.cells #[.slice none 0 0, .slice none 0 0, .slice none 0 0] 35))) := Lib.hid (by
    have := sep_box (sep_box (sep_new w) (.cells #[.pointer (some ⟨q, 0, none⟩)] 27)) (.cells #[.slice none 0 0, .slice none 0 0, .slice none 0 0] 35)
    rw [size1] at this
    exact this)
  have FIN := Lib.hid fun V (h : Below w.heap.size w V) => left_none w h
  have CN := Lib.hid fun V (h : Below w.heap.size w V) => count_any q cC cR cS cD cV cN cQ V (hq.below h) ok
  generalize Left w ([], [], []) = P at *
  have bn := b_none
  clear hq ok
  generalize cC * cR = n9 at *
  by_cases h1 : z < -1
  · clear hz CN
    go_enter Tryz.func13, Tryz.ntmps13
    go_upto_region 1 with fail
    generalize (w.alloc (.cells #[.pointer (some ⟨q, 0, none⟩)] 27)).alloc (.cells #[.slice none 0 0, .slice none 0 0, .slice none 0 0] 35) = w0 at *
    obtain ⟨⟨_, _, _⟩, f0, f1, f2⟩ := Bx.b3 (H0.out.held 0 rfl)
    obtain ⟨m0, _⟩ := Bx.b1 (H0.out.held 1 rfl)
    have HX := Lib.hid (H0.out.set3 (.slice none 0 0) (.slice none 0 0) (.slice none 0 0))
    go_wp2
    obtain ⟨r0, r1, r2⟩ := (Bx.b3 (HX.out.held 0 rfl)).1
    exact bodyPost_ret (v := .agg #[.slice none 0 0, .slice none 0 0, .slice none 0 0]) (by simp [results, Tryz.results13, go_sem, r0, r1, r2]) rfl (FIN.out _ HX.out.bel)
  · have h2 : n9 ≤ z := by omega
    clear hz
    go_enter Tryz.func13, Tryz.ntmps13
    go_upto_region 1 with fail
    generalize (w.alloc (.cells #[.pointer (some ⟨q, 0, none⟩)] 27)).alloc (.cells #[.slice none 0 0, .slice none 0 0, .slice none 0 0] 35) = w0 at *
    obtain ⟨m0, _⟩ := Bx.b1 (H0.out.held 1 rfl)
    go_upto_region 2 with (go_at_call 21; with_reducible refine (CN.out _ H0.out.bel).mono ?_; rintro e w1 ⟨rfl, b1⟩; clear CN m0; have H1 := Lib.hid (H0.out.below b1); clear H0 b1)
    obtain ⟨⟨_, _, _⟩, f0, f1, f2⟩ := Bx.b3 (H1.out.held 0 rfl)
    have HX := Lib.hid (H1.out.set3 (.slice none 0 0) (.slice none 0 0) (.slice none 0 0))
    go_wp2
    obtain ⟨r0, r1, r2⟩ := (Bx.b3 (HX.out.held 0 rfl)).1
    exact bodyPost_ret (v := .agg #[.slice none 0 0, .slice none 0 0, .slice none 0 0]) (by simp [results, Tryz.results13, go_sem, r0, r1, r2]) rfl (FIN.out _ HX.out.bel)
end Go.Proofs.YtljaahemlcaffaaGreat
namespace Go.Proofs.YtljaahemlcaffaaGreat
open Go.RowKit Pz Sp
set_option linter.unusedVariables false
set_option linter.unusedSimpArgs false

set_option maxHeartbeats 4000000 in
set_option maxRecDepth 100000 in
theorem eq_hit (p0 p1 p2 p3 q0 q1 q2 q3 : Int) (w : World) : (Op.equalIn (9999 + 1) 104 (.agg #[.int .i64 p0, .int .i64 p1, .int .i64 p2, .int .i64 p3]) (.agg #[.int .i64 q0, .int .i64 q1, .int .i64 q2, .int .i64 q3])).run Tryz.prog w = .ok (((p0 == q0) && ((p1 == q1) && (p2 == q2))) && (p3 == q3)) w := by
  have u3 := Tryz.underlying3
  have a3 := Tryz.isAgg3
  have z3 := Tryz.sizeOf3
  have hS : Tryz.prog.underlying 104 = some (.struct (Tryz.prog.fieldsOf 104)) := by kernel_rfl
  have hp : Tryz.prog.stoodInHeld 104 = false := by kernel_rfl
  have E := fun W => eq_id 9997 p0 p1 p2 q0 q1 q2 W
  have u23 := Tryz.underlying40
  have a23 := Tryz.isAgg40
  have z23 := Tryz.sizeOf40
  generalize ((p0 == q0) && ((p1 == q1) && (p2 == q2))) = b at *
  rw [run_equalIn_agg w _ 104 _ _ hS hp]
  simp only [Program.fieldsOf, Tryz.underlying104]
  go_simp
  cases b with
  | false => rfl
  | true => exact ite_end
end Go.Proofs.YtljaahemlcaffaaGreat
