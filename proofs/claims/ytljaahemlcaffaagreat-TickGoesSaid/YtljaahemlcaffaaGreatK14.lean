/- The law's helpers: mod, May, same, has: what they answer. The code: does it stand where the tick is done? -/
import Derived.Test.YtljaahemlcaffaaGreatK13
import Derived.Test.YtljaahemlcaffaaGreatK08
import Derived.Test.YtljaahemlcaffaaGreatK04
import Derived.Test.YtljaahemlcaffaaGreatK00
import Derived.Test.YtljaahemlcaffaaGreatK06
namespace Go.Proofs.YtljaahemlcaffaaGreat
open Go.RowKit
open Zn (Ok There)

theorem set7_same {W : World} {b T : Nat} {u0 u1 u2 u3 u4 u5 u6 : Value} (h : W.heap[b]? = some (.cells #[u0, u1, u2, u3, u4, u5, u6] T (0, 0))) (v0 v1 v2 v3 v4 v5 v6 : Value) :
    (((((((W.setCell ⟨b, 0, none⟩ v0).setCell ⟨b, 1, none⟩ v1).setCell ⟨b, 2, none⟩ v2).setCell ⟨b, 3, none⟩ v3).setCell ⟨b, 4, none⟩ v4).setCell ⟨b, 5, none⟩ v5).setCell ⟨b, 6, none⟩ v6).heap[b]? = some (.cells #[v0, v1, v2, v3, v4, v5, v6] T (0, 0)) := by
  have h1 := heap_setCell_same W b 0 _ T v0 h
  have h2 := heap_setCell_same _ b 1 _ T v1 h1
  have h3 := heap_setCell_same _ b 2 _ T v2 h2
  have h4 := heap_setCell_same _ b 3 _ T v3 h3
  have h5 := heap_setCell_same _ b 4 _ T v4 h4
  have h6 := heap_setCell_same _ b 5 _ T v5 h5
  have h7 := heap_setCell_same _ b 6 _ T v6 h6
  rw [h7]
  rfl
theorem set7_other {W : World} {b b' : Nat} (h : b' ≠ b) (v0 v1 v2 v3 v4 v5 v6 : Value) :
    (((((((W.setCell ⟨b, 0, none⟩ v0).setCell ⟨b, 1, none⟩ v1).setCell ⟨b, 2, none⟩ v2).setCell ⟨b, 3, none⟩ v3).setCell ⟨b, 4, none⟩ v4).setCell ⟨b, 5, none⟩ v5).setCell ⟨b, 6, none⟩ v6).heap[b']? = W.heap[b']? := by
  rw [Below.heap_setCell _ _ _ _ h, Below.heap_setCell _ _ _ _ h, Below.heap_setCell _ _ _ _ h, Below.heap_setCell _ _ _ _ h, Below.heap_setCell _ _ _ _ h, Below.heap_setCell _ _ _ _ h, Below.heap_setCell _ _ _ _ h]
theorem set7_size {W : World} {b : Nat} (v0 v1 v2 v3 v4 v5 v6 : Value) :
    (((((((W.setCell ⟨b, 0, none⟩ v0).setCell ⟨b, 1, none⟩ v1).setCell ⟨b, 2, none⟩ v2).setCell ⟨b, 3, none⟩ v3).setCell ⟨b, 4, none⟩ v4).setCell ⟨b, 5, none⟩ v5).setCell ⟨b, 6, none⟩ v6).heap.size = W.heap.size := by simp
theorem set7 {B : Nat} {w W : World} (h : Below B w W) (b : Nat) (hb : B ≤ b) (v0 v1 v2 v3 v4 v5 v6 : Value) :
    Below B w (((((((W.setCell ⟨b, 0, none⟩ v0).setCell ⟨b, 1, none⟩ v1).setCell ⟨b, 2, none⟩ v2).setCell ⟨b, 3, none⟩ v3).setCell ⟨b, 4, none⟩ v4).setCell ⟨b, 5, none⟩ v5).setCell ⟨b, 6, none⟩ v6) :=
  ((((((h.setCell hb v0).setCell hb v1).setCell hb v2).setCell hb v3).setCell hb v4).setCell hb v5).setCell hb v6

/-- a config's cells -/
abbrev C7 (a b c d e f g : Int) : Option Obj := some (.cells #[.int .i64 a, .int .i64 b, .int .i64 c, .int .i64 d, .int .i64 e, .int .i64 f, .int .i64 g] 23 (0, 0))
/- a number brought below another one -/
theorem mod_lo (k : Int) {n : Int} (hn : 0 < n) : 0 ≤ k.tmod n + n ∧ k.tmod n + n < 2 * n := by
  have h1 := Int.emod_nonneg k (show n ≠ 0 by omega)
  have h2 := Int.emod_lt_of_pos k hn
  rcases Int.le_total 0 k with h | h
  · rw [Int.tmod_eq_emod_of_nonneg h]; omega
  · have h3 := Int.emod_nonneg (-k) (show n ≠ 0 by omega)
    have h4 := Int.emod_lt_of_pos (-k) hn
    have : k.tmod n = -((-k) % n) := by rw [← Int.tmod_eq_emod_of_nonneg (show 0 ≤ -k by omega), Int.neg_tmod, Int.neg_neg]
    rw [this]
    omega
theorem mod_is (k : Int) {n : Int} (hn : 0 < n) : (k.tmod n + n).tmod n = k % n := by
  rw [Int.tmod_eq_emod_of_nonneg (mod_lo k hn).1, Int.add_emod_right, Int.tmod_def, Int.sub_eq_add_neg, ← Int.mul_neg, Int.add_mul_emod_self_left]
set_option maxHeartbeats 400000 in
theorem mod_any (k n : Int) (w : World) (hn : 0 < n) (hn' : n ≤ 4294967296) :
    Calls Tryz.prog 28 #[.int .i64 k, .int .i64 n] w fun e w' => e = .returned (.int .i64 (k % n)) ∧ w = w' := by
  have hm := mod_lo k hn
  have e1 := mod_is k hn
  have h0 : n ≠ 0 := by omega
  have s0 : IntKind.i64.wrap (k.tmod n + n) = k.tmod n + n := IntWalk.i64_in _ ⟨by omega, by omega⟩
  clear hm hn hn'
  go_enter Tryz.func28, Tryz.ntmps28
  go_wp2
  go_ret
  exact ⟨rfl, rfl⟩

namespace Zn
/-- what May makes -/
def mC (n : Int) : Int := 1 + n % 4
def mS (n : Int) : Int := 256 + n % 5000
def mN (n : Int) : Int := 1 + n % 16
def mQ (n : Int) : Int := 1 + n % 64
def mD (S n : Int) : Int := n % (mS S + 1)
theorem mS_bd (n : Int) : 256 ≤ mS n ∧ mS n ≤ 5255 := by unfold mS; omega
theorem mD_bd (S n : Int) : 0 ≤ mD S n ∧ mD S n ≤ mS S := by
  have := mS_bd S
  unfold mD
  have h1 := Int.emod_nonneg n (show mS S + 1 ≠ 0 by omega)
  have h2 := Int.emod_lt_of_pos n (show 0 < mS S + 1 by omega)
  omega
theorem may_ok (C R S D V : Int) : Ok (mC C) (mC R) (mS S) (mD S D) (mD S V) := by
  have a := mS_bd S
  have b := mD_bd S D
  have c := mD_bd S V
  exact ⟨by unfold mC; omega, by unfold mC; omega, by unfold mC; omega, by unfold mC; omega, a.1, by omega, b.1, b.2, c.1, c.2⟩
theorem may_okB (C R S D V N Q : Int) : okB (mC C) (mC R) (mS S) (mD S D) (mD S V) (mN N) (mQ Q) = true := by
  obtain ⟨a, b, c, d, e, f, g, h, i, j⟩ := may_ok C R S D V
  exact decide_eq_true ⟨⟨a, b⟩, ⟨c, d⟩, ⟨e, f⟩, ⟨g, h⟩, ⟨i, j⟩, by unfold mN; omega, by unfold mQ; omega⟩
end Zn

theorem zero_box (W : World) (B : Nat) (hB : B ≤ W.heap.size) : grows.r W (W.alloc (.cells #[.int .i64 0, .int .i64 0, .int .i64 0, .int .i64 0, .int .i64 0, .int .i64 0, .int .i64 0] 23)) ∧
    Og.Box B #[.int .i64 0, .int .i64 0, .int .i64 0, .int .i64 0, .int .i64 0, .int .i64 0, .int .i64 0] 23 (.pointer (some ⟨W.heap.size, 0, none⟩)) (W.alloc (.cells #[.int .i64 0, .int .i64 0, .int .i64 0, .int .i64 0, .int .i64 0, .int .i64 0, .int .i64 0] 23)) := Og.Box.new W B hB _ _
set_option maxHeartbeats 4000000 in
set_option maxRecDepth 100000 in
theorem zmay_any (C R S D V N Q : Int) (w : World) :
    Calls Tryz.prog 9 #[.agg #[.int .i64 C, .int .i64 R, .int .i64 S, .int .i64 D, .int .i64 V, .int .i64 N, .int .i64 Q]] w fun e w' => e = .returned (.agg #[.int .i64 (Zn.mC C), .int .i64 (Zn.mC R), .int .i64 (Zn.mS S), .int .i64 (Zn.mD S D), .int .i64 (Zn.mD S V), .int .i64 (Zn.mN N), .int .i64 (Zn.mQ Q)]) ∧ Below w.heap.size w w' := by
  have mc := mod_any C 4
  have mr := mod_any R 4
  have ms := mod_any S 5000
  have mn := mod_any N 16
  have mq := mod_any Q 64
  have M0 := Lib.hid (fun W => mod_any C 4 W (by decide) (by decide))
  have M1 := Lib.hid (fun W => mod_any R 4 W (by decide) (by decide))
  have M2 := Lib.hid (fun W => mod_any S 5000 W (by decide) (by decide))
  have M3 := Lib.hid (fun W => mod_any N 16 W (by decide) (by decide))
  have M4 := Lib.hid (fun W => mod_any Q 64 W (by decide) (by decide))
  clear mc mr ms mn mq
  have sb := Zn.mS_bd S
  have M5 := Lib.hid (fun W => mod_any D (Zn.mS S + 1) W (by omega) (by omega))
  have M6 := Lib.hid (fun W => mod_any V (Zn.mS S + 1) W (by omega) (by omega))
  unfold Zn.mD
  generalize hs : Zn.mS S = s at *
  unfold Zn.mS at hs
  have w0 : IntKind.i64.wrap (1 + C % 4) = Zn.mC C := IntWalk.i64_in _ ⟨by omega, by omega⟩
  have w1 : IntKind.i64.wrap (1 + R % 4) = Zn.mC R := IntWalk.i64_in _ ⟨by omega, by omega⟩
  have w2 : IntKind.i64.wrap (256 + S % 5000) = s := by rw [← hs]; exact IntWalk.i64_in _ ⟨by omega, by omega⟩
  have w3 : IntKind.i64.wrap (1 + N % 16) = Zn.mN N := IntWalk.i64_in _ ⟨by omega, by omega⟩
  have w4 : IntKind.i64.wrap (1 + Q % 64) = Zn.mQ Q := IntWalk.i64_in _ ⟨by omega, by omega⟩
  have w5 : IntKind.i64.wrap (s + 1) = s + 1 := IntWalk.i64_in _ ⟨by omega, by omega⟩
  clear hs sb
  generalize D % (s + 1) = d at *
  generalize V % (s + 1) = v at *
  generalize Zn.mC C = c' at *
  generalize Zn.mC R = r' at *
  generalize Zn.mN N = n' at *
  generalize Zn.mQ Q = q' at *
  generalize C % 4 = c at *
  generalize R % 4 = r at *
  generalize S % 5000 = z at *
  generalize N % 16 = n at *
  generalize Q % 64 = q at *
  go_enter Tryz.func9, Tryz.ntmps9
  go_wp2
  refine Og.grow 22 (by kernel_rfl) (by kernel_rfl) fun hc hf => ?_
  simp only [List.take_succ_cons, List.take_zero, List.drop_succ_cons, List.drop_zero]
  repeat (refine Og.det [] rfl (fun K hK => ?_); go_simp; first | (refine hK _ _ ?_; clear hK K) | (with_reducible refine ⟨_, fun p => Og.same (M0.out _), hK _ _ ?_⟩; clear hK K) | (with_reducible refine ⟨_, fun p => Og.same (M1.out _), hK _ _ ?_⟩; clear hK K) | (with_reducible refine ⟨_, fun p => Og.same (M2.out _), hK _ _ ?_⟩; clear hK K) | (with_reducible refine ⟨_, fun p => Og.same (M3.out _), hK _ _ ?_⟩; clear hK K) | (with_reducible refine ⟨_, fun p => Og.same (M4.out _), hK _ _ ?_⟩; clear hK K))
  refine Og.such 3 (Og.Box (w.heap.size + 2) #[.int .i64 0, .int .i64 0, .int .i64 0, .int .i64 0, .int .i64 0, .int .i64 0, .int .i64 0] 23) [] rfl (Og.Box.lasts _ _ _) (Og.Box.noBool _ _ _) (fun K hK => ?_)
  go_simp
  refine ⟨fun p => zero_box p.W _ (by have := (zlat_below p).size; rw [size2] at this; exact this), hK _ _ ?_⟩
  clear hK K
  refine Og.fin fun W hW => ?_
  simp only [Og.opened_cons, Og.opened_nil]
  rintro _ ⟨g, rfl, hg0, hgl, hgc⟩
  clear hc hf
  have p1 := Lib.hid ((hW.block w.heap.size (by rw [size2]; omega)).trans (at2a w _ _))
  have q1 := Lib.hid ((hW.block (w.heap.size + 1) (by rw [size2]; omega)).trans (at2b w _ _))
  have b1 := Lib.hid ((bel2 w _ _).trans (hW.mono (by rw [size2]; omega)))
  clear hW M0 M1 M2 M3 M4 w0 w1 w2 w3 w4
  obtain ⟨⟨k0, k1, k2, k3, k4, k5, k6⟩, f0, f1, f2, f3, f4, f5, f6⟩ := box7 hgc
  obtain ⟨l0, l1, l2, l3, l4, l5, l6⟩ := (box7 p1.out).1
  have ne1 : w.heap.size ≠ g := by omega
  have ne2 : g ≠ w.heap.size := by omega
  have HG := Lib.hid hgc
  clear hgc
  go_wp2_with fail
  refine (M5.out _).mono ?_
  rintro e W1 ⟨rfl, hW1⟩
  have p2 := Lib.hid (show W1.heap[w.heap.size]? = C7 C R S D V N Q by rw [← hW1]; exact (set7_other ne1 _ _ _ _ _ _ _).trans p1.out)
  have q2 := Lib.hid (show W1.heap[w.heap.size + 1]? = C7 0 0 0 0 0 0 0 by rw [← hW1]; exact (set7_other (by omega) _ _ _ _ _ _ _).trans q1.out)
  have g2 := Lib.hid (show W1.heap[g]? = C7 c' r' s 0 0 n' q' by rw [← hW1]; exact set7_same HG.out _ _ _ _ _ _ _)
  have b2 := Lib.hid (show Below w.heap.size w W1 by rw [← hW1]; exact set7 b1.out g (by omega) _ _ _ _ _ _ _)
  have z2 : g < W1.heap.size := by rw [← hW1, set7_size]; exact hgl
  clear hW1 p1 q1 HG b1 hgl k0 k1 k2 k3 k4 k5 k6 f0 f1 f2 f3 f4 f5 f6 l0 l1 l2 l3 l4 l5 l6 M5 W
  obtain ⟨⟨k0, k1, k2, k3, k4, k5, k6⟩, f0, f1, f2, f3, f4, f5, f6⟩ := box7 g2.out
  obtain ⟨l0, l1, l2, l3, l4, l5, l6⟩ := (box7 p2.out).1
  go_wp2_with fail
  refine (M6.out _).mono ?_
  rintro e W2 ⟨rfl, hW2⟩
  have q3 := Lib.hid (show W2.heap[w.heap.size + 1]? = C7 0 0 0 0 0 0 0 by rw [← hW2]; exact (Below.heap_setCell _ _ _ _ (by show w.heap.size + 1 ≠ g; omega)).trans q2.out)
  have g3 := Lib.hid (show W2.heap[g]? = some (.cells #[.int .i64 c', .int .i64 r', .int .i64 s, .int .i64 d, .int .i64 0, .int .i64 n', .int .i64 q'] 23 (0, 0)) by rw [← hW2, heap_setCell_same W1 g 3 _ _ _ g2.out]; rfl)
  have b3 := Lib.hid (show Below w.heap.size w W2 by rw [← hW2]; exact b2.out.setCell (by show w.heap.size ≤ g; omega) _)
  have z3 : g < W2.heap.size := by rw [← hW2]; simpa using z2
  clear hW2 p2 q2 g2 b2 z2 k0 k1 k2 k3 k4 k5 k6 f0 f1 f2 f3 f4 f5 f6 l0 l1 l2 l3 l4 l5 l6 M6 W1
  obtain ⟨⟨k0, k1, k2, k3, k4, k5, k6⟩, f0, f1, f2, f3, f4, f5, f6⟩ := box7 g3.out
  obtain ⟨⟨l0, l1, l2, l3, l4, l5, l6⟩, m0, m1, m2, m3, m4, m5, m6⟩ := box7 q3.out
  clear ne1 ne2
  go_wp2
  exact bodyPost_ret (v := .agg #[.int .i64 c', .int .i64 r', .int .i64 s, .int .i64 d, .int .i64 v, .int .i64 n', .int .i64 q']) (by simp [results, Tryz.results9, go_sem, l0, l1, l2, l3, l4, l5, l6]) rfl ⟨rfl, set7 (b3.out.setCell (by show w.heap.size ≤ g; omega) _) _ (by omega) _ _ _ _ _ _ _⟩
theorem ints_len (l : List Int) : (ints l).length = l.length := List.length_map _
theorem reads_int {W : World} {A : Option Addr} {l : List Int} (h : Reads W W.heap.size A (ints l)) {k : Nat} (hk : k < l.length) : ∃ g off, A = some ⟨g, off, none⟩ ∧ g < W.heap.size ∧ W.cell? ⟨g, off + k, none⟩ = some (.int .i64 l[k]) := by
  obtain ⟨g, off, rfl, hg, hc⟩ := Reads.at_ h (k := k) (by rw [ints_len]; exact hk)
  rw [show (ints l)[k]'(by rw [ints_len]; exact hk) = .int .i64 l[k] by unfold ints; exact List.getElem_map _] at hc
  exact ⟨g, off, rfl, hg, hc⟩
theorem take_same {a b : List Int} {k : Nat} (h : a.take k = b.take k) (ha : k < a.length) (hb : k < b.length) (he : a[k] = b[k]) : a.take (k + 1) = b.take (k + 1) := by
  rw [← List.take_append_getElem ha, ← List.take_append_getElem hb, h, he]
end Go.Proofs.YtljaahemlcaffaaGreat
namespace Go.Proofs.YtljaahemlcaffaaGreat
open Go.RowKit Pz Sp
set_option linter.unusedVariables false
set_option linter.unusedSimpArgs false

/-- as the code asks: the whole world, or the zone -/
def hereC (C R S z : Int) (b : Bn) : Bool := decide (z = -1) || decide (Zn.of C R S b.x b.y = z)
set_option maxHeartbeats 8000000 in
set_option maxRecDepth 100000 in
theorem chas_any {w : World} {p q : Nat} (cC cR cS cD cV cN cQ z : Int) (hq : MapAt w q cC cR cS cD cV cN cQ) (ok : Zn.Ok cC cR cS cD cV) {v1 v2 v3 : Value} (hp : w.heap[p]? = some (.cells #[.pointer (some ⟨q, 0, none⟩), v1, v2, v3, .int .i64 z] 73 (0, 0))) (b : Bn) (hx : Fit b.x) (hy : Fit b.y) :
    Calls Tryz.prog 76 #[.pointer (some ⟨p, 0, none⟩), b.val] w fun e w' => e = .returned (.bool (hereC cC cR cS z b)) ∧ Below w.heap.size w w' := by
  have B0 := bel1 w (.cells #[.int .i64 b.s, .int .i64 b.i, .int .i64 b.g, .int .i64 b.m, .int .i64 b.x, .int .i64 b.y, .int .i64 b.vx, .int .i64 b.vy, .int .i64 b.h, .int .i64 b.p, .int .i64 b.l] 42)
  have P0 := (B0.block _ (Bx.lt hp)).trans hp
  have Q0 := hq.below B0
  have OF := Lib.hid fun V (hV : Below (w.alloc (.cells #[.int .i64 b.s, .int .i64 b.i, .int .i64 b.g, .int .i64 b.m, .int .i64 b.x, .int .i64 b.y, .int .i64 b.vx, .int .i64 b.vy, .int .i64 b.h, .int .i64 b.p, .int .i64 b.l] 42)).heap.size _ V) => of_any q cC cR cS cD cV cN cQ b.x b.y V (Q0.below hV) ok hx hy
  have T0 := at1 w (.cells #[.int .i64 b.s, .int .i64 b.i, .int .i64 b.g, .int .i64 b.m, .int .i64 b.x, .int .i64 b.y, .int .i64 b.vx, .int .i64 b.vy, .int .i64 b.h, .int .i64 b.p, .int .i64 b.l] 42)
  obtain ⟨⟨c0, _, _, _, c4⟩, _⟩ := Bx.b5 P0
  obtain ⟨⟨_, _, _, _, k4, k5, _⟩, _⟩ := Bx.b11 T0
  have HB := Lib.hid B0
  have lp := Bx.lt P0
  have lw := Bx.lt T0
  have HR : Hid (hereC cC cR cS z b = (decide (z = -1) || decide (Zn.of cC cR cS b.x b.y = z))) := Lib.hid rfl
  generalize hereC cC cR cS z b = r at *
  clear Q0 hp hq P0 T0 B0 hx hy
  generalize Zn.of cC cR cS b.x b.y = t at *
  obtain ⟨bs, bi, bg, bm, bx, by_, bvx, bvy, bh, bp, bl⟩ := b
  simp only [Bn.val] at *
  go_enter Tryz.func76, Tryz.ntmps76
  go_upto_region 1 with fail
  generalize w.alloc (.cells #[.int .i64 bs, .int .i64 bi, .int .i64 bg, .int .i64 bm, .int .i64 bx, .int .i64 by_, .int .i64 bvx, .int .i64 bvy, .int .i64 bh, .int .i64 bp, .int .i64 bl] 42) = w1 at *
  by_cases hz : z = -1
  · have e : r = true := by rw [HR.out]; simp [hz]
    subst e hz
    clear HR OF
    go_quiet (fail)
    rename_i nq
    have FB := Lib.hid (Below.dn' HB.out nq)
    go_wp2
    go_ret
    exact ⟨rfl, FB.out⟩
  · have e : (t == z) = r := by rw [HR.out, decide_eq_false hz, Bool.false_or]; rfl
    have e3 : (z == -1) = false := beq_eq_false_iff_ne.2 hz
    have e4 : decide (t = z) = r := e
    clear HR hz
    refine Og.grow 22 (by kernel_rfl) (by kernel_rfl) fun hc hf => ?_
    simp only [List.take_succ_cons, List.take_zero, List.drop_succ_cons, List.drop_zero]
    repeat (refine Og.det [] rfl (fun K hK => ?_); go_simp; first | (refine hK _ _ ?_; clear hK K) | (with_reducible refine ⟨_, fun p => Og.lays (OF.out _ (zlat_below p)), hK _ _ ?_⟩; clear hK K))
    refine Og.fin fun W hW => ?_
    simp only [Og.opened_nil]
    clear hc hf
    go_wp2
    go_ret
    exact ⟨rfl, HB.out.trans (hW.mono HB.out.size)⟩
end Go.Proofs.YtljaahemlcaffaaGreat
