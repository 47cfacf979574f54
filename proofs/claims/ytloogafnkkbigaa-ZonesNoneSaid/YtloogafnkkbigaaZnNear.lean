/- zones: Near: what it answers. -/
import Derived.Test.YtloogafnkkbigaaZnList
namespace Go.Proofs.Ytloogafnkkbigaa
open Go.RowKit
open Zn (Ok There)

theorem tk_hit {q : Int → Bool} {L : List Int} {m : Nat} (h : m < L.length) (hq : q L[m] = true) : (L.take (m + 1)).filter q = (L.take m).filter q ++ [L[m]] := by
  rw [← List.take_append_getElem h, List.filter_append]
  simp [hq]
theorem tk_miss {q : Int → Bool} {L : List Int} {m : Nat} (h : m < L.length) (hq : q L[m] = false) : (L.take (m + 1)).filter q = (L.take m).filter q := by
  rw [← List.take_append_getElem h, List.filter_append]
  simp [hq]
theorem tk_len (q : Int → Bool) (L : List Int) (m : Nat) : ((L.take m).filter q).length ≤ L.length :=
  Nat.le_trans (List.length_filter_le _ _) (by rw [List.length_take]; omega)
theorem near_q {C R S D V k : Int} (ok : Ok C R S D V) (hk : There C R k) (x y : Int) : nearB (Zn.zone C R S k).a (Zn.zone C R S k).b (Zn.zone C R S k).c (Zn.zone C R S k).d x y D = Zn.nearQ C R S D x y k := by
  have := Zn.gap_pos ok hk x y
  unfold nearB Zn.nearQ
  rw [decide_eq_decide]
  unfold Zn.gapZ at *
  omega
theorem zone_i {C R S D V k : Int} (ok : Ok C R S D V) (hk : There C R k) : (I (Zn.zone C R S k).a ∧ I (Zn.zone C R S k).b) ∧ (I (Zn.zone C R S k).c ∧ I (Zn.zone C R S k).d) := by
  have := Zn.zone_bd ok hk
  rw [Zn.zone_yes hk]
  unfold I
  simp only
  omega

set_option maxHeartbeats 1000000 in
theorem near_no (b : Option Addr) (o x y : Int) (w : World) (h : Hid (Calls Try.prog 22 #[.pointer b, .int .i64 x, .int .i64 y] w fun e w' => e = .returned (.int .i64 o) ∧ Below w.heap.size w w'))
    (k : Hid (∀ W, Below w.heap.size w W → Calls Try.prog 27 #[.pointer b, .int .i64 o] W fun e w' => e = .returned (.slice none 0 0) ∧ Below W.heap.size W w')) :
    Calls Try.prog 25 #[.pointer b, .int .i64 x, .int .i64 y] w fun e w' => e = .returned (.slice none 0 0) ∧ Below w.heap.size w w' := by
  go_enter Try.func25, Try.ntmps25
  go_wp2_with fail
  refine h.out.mono ?_
  rintro e w1 ⟨rfl, b1⟩
  go_wp2_with fail
  refine (k.out _ b1).mono ?_
  rintro e w2 ⟨rfl, b2⟩
  have b3 := b1.trans (b2.mono b1.size)
  clear h k b1 b2
  go_wp2
  go_loopw [7, 9, 17] (fun v _ i wr => v = .slice none 0 0 ∧ i = .int .i64 0 ∧ Below w.heap.size w wr) (fun _ _ _ _ => 0)
  case atStart => exact ⟨rfl, rfl, b3⟩
  case round =>
    obtain ⟨rfl, rfl, hbel⟩ := hrel
    go_wp2
    go_ret
    exact ⟨rfl, hbel⟩

set_option maxHeartbeats 4000000 in
set_option maxRecDepth 100000 in
theorem near_walk (b : Nat) (C R S D V N Q x y o : Int) (w : World) (h : MapAt w b C R S D V N Q) (ok : Ok C R S D V) (hx : I x) (hy : I y) (ho : o = Zn.of C R S x y) :
    Calls Try.prog 25 #[.pointer (some ⟨b, 0, none⟩), .int .i64 x, .int .i64 y] w fun e w' => ∃ v, e = .returned v ∧ Own w' w.heap.size v ((Zn.beside C R o).filter (Zn.nearQ C R S D x y)) ∧ Below w.heap.size w w' := by
  have O := Lib.hid (of_any b C R S D V N Q x y w h ok hx hy)
  rw [← ho] at O
  have E := Lib.hid (fun W (hb : Below w.heap.size w W) => beside_any b C R S D V N Q o W (h.below hb) ok)
  have lenL := Zn.beside_bd ok o
  have memL : ∀ z ∈ Zn.beside C R o, There C R z := fun z hz => (Zn.beside_mem.1 hz).2.1
  have LI : ∀ z ∈ Zn.beside C R o, 0 ≤ z ∧ z ≤ 16 := fun z hz => by have := memL z hz; have := Zn.mul_bd ok; unfold There at *; omega
  have HM := Lib.hid h
  have Z := Lib.hid (fun W k (hm : MapAt W b C R S D V N Q) => zzone_any b C R S D V N Q k W hm ok)
  have NB := Lib.hid (fun W k (hk : There C R k) => show Calls Try.prog 41 #[.agg #[.int .i64 (Zn.zone C R S k).a, .int .i64 (Zn.zone C R S k).b, .int .i64 (Zn.zone C R S k).c, .int .i64 (Zn.zone C R S k).d], .int .i64 x, .int .i64 y, .int .i64 D] W fun e w' => (e = .returned (.bool (Zn.nearQ C R S D x y k)) ∧ Below W.heap.size W w') by
    have := near_any (Zn.zone C R S k).a (Zn.zone C R S k).b (Zn.zone C R S k).c (Zn.zone C R S k).d x y D W (zone_i ok hk).1.1 (zone_i ok hk).1.2 (zone_i ok hk).2.1 (zone_i ok hk).2.2 hx hy
    rwa [near_q ok hk] at this)
  have HL := Lib.hid memL
  clear h ok hx hy ho memL
  generalize Zn.beside C R o = L at *
  generalize Zn.nearQ C R S D x y = q at *
  obtain ⟨i0, hi, hz0, hz1, hz2⟩ := info_parts int_info
  have HI := Lib.hid (And.intro hi (And.intro hz0 (And.intro hz1 hz2)))
  clear hi hz0 hz1 hz2
  go_enter Try.func25, Try.ntmps25
  go_wp2_with fail
  refine O.out.mono ?_
  rintro e w1 ⟨rfl, b1⟩
  clear O
  go_wp2_with fail
  refine (E.out _ b1).mono ?_
  rintro e w2 ⟨v0, rfl, own0, b2⟩
  clear E
  have HB3 := Lib.hid (b1.trans (b2.mono b1.size))
  clear b1 b2
  obtain ⟨A, cap, rfl, rd⟩ := own_at own0
  have HR := Lib.hid rd
  have hm2 := Lib.hid (HM.out.below HB3.out)
  clear own0 rd HM
  go_wp2
  go_loopw [7, 9, 17] (fun v _ i wr => ∃ m : Nat, m ≤ L.length ∧ i = .int .i64 m ∧ Own wr w2.heap.size v ((L.take m).filter q) ∧ Below w2.heap.size w2 wr) (fun _ _ i _ => L.length - (intOf i).toNat)
  case atStart => exact ⟨0, Nat.zero_le _, rfl, own_nil _ _, Below.refl _ _⟩
  case round =>
    obtain ⟨m, hm, rfl, hown, hbel⟩ := hrel
    by_cases hlt : m < L.length
    · have HO := Lib.hid hown
      have HB := Lib.hid hbel
      have hsz := hbel.size
      have hlen := tk_len q L m
      have hmr := hm2.out.below hbel
      obtain ⟨g, off, rfl, hg, hcell⟩ := Reads.at_ (HR.out.below hbel) (k := m) (by unfold ints; rw [List.length_map]; exact hlt)
      rw [show (ints L)[m]'(by unfold ints; rw [List.length_map]; exact hlt) = .int .i64 L[m] by unfold ints; exact List.getElem_map _] at hcell
      have hLI := LI L[m] (List.getElem_mem hlt)
      have ltb := hmr.lt
      have ltg : g < wr.heap.size := by omega
      obtain ⟨⟨k0, k1, k2, k3, k4, k5, k6⟩, f0, f1, f2, f3, f4, f5, f6⟩ := box7 hmr
      have Zr := Lib.hid (fun W (hb : Below wr.heap.size wr W) => Z.out W L[m] (hmr.below hb))
      have Nr := Lib.hid (fun W => NB.out W L[m] (HL.out _ (List.getElem_mem hlt)))
      have Hhit := Lib.hid (fun hq : q L[m] = true => tk_hit (q := q) hlt hq)
      have Hmiss := Lib.hid (fun hq : q L[m] = false => tk_miss (q := q) hlt hq)
      clear hown hbel hmr k0 k1 k2 k4 k5 k6 f0 f1 f2 f3 f4 f5 f6 LI Z NB HL hm2
      generalize L[m] = e at *
      generalize (Zn.zone C R S e).a = z0 at *
      generalize (Zn.zone C R S e).b = z1 at *
      generalize (Zn.zone C R S e).c = z2 at *
      generalize (Zn.zone C R S e).d = z3 at *
      go_wp2
      refine Og.grow 11 (by kernel_rfl) (by kernel_rfl) fun hc hf => ?_
      simp only [List.take_succ_cons, List.take_zero, List.drop_succ_cons, List.drop_zero]
      repeat (refine Og.det [] rfl (fun K hK => ?_); go_simp; first | (refine hK _ _ ?_; clear hK K) | (with_reducible refine ⟨_, fun p => Og.lays (Zr.out _ (lat_below p)), hK _ _ ?_⟩; clear hK K) | (with_reducible refine ⟨_, fun p => Og.lays (Nr.out _), hK _ _ ?_⟩; clear hK K))
      refine Og.fin fun W hW => ?_
      simp only [Og.opened_nil]
      have HW := Lib.hid hW
      have hw2 := hW.size
      clear hc hf hcell k3 Zr Nr hW
      cases hq : q e
      · have hq' := Hmiss.out hq
        have HO2 := own_below HO.out HW.out
        rw [← hq'] at HO2
        have R := Lib.hid HO2
        have HB2 := Lib.hid (HB.out.trans (HW.out.mono hsz))
        clear hq hq' Hmiss Hhit HO2
        go_wp2
        go_roundw
        case rel => exact ⟨m + 1, by omega, by go_num, R.out, HB2.out⟩
        case measure => simp [intOf]; omega
      · have HQ := Lib.hid (Hhit.out hq)
        have HO2 := Lib.hid (own_below HO.out HW.out)
        have HB2 := Lib.hid (HB.out.trans (HW.out.mono hsz))
        clear hq Hmiss Hhit HO HB
        go_wp2_with (at_builtin; refine wpList_append_own _ rfl _ _ 46 rfl w2.heap.size 3 i0 (.int .i64 0) 1 8 ints_und HI.out.1 HI.out.2.1 HI.out.2.2.1 HI.out.2.2.2 rfl (by decide) _ _ _ rfl (World.ownsRow.alloc HO2.out _) ⟨W.heap.size, 0, none⟩ 1 1 [.int .i64 e] rfl rfl (by intro j u hj; match j, hj with | 0, hj => simp at hj; subst hj; simp [Addr.add]) (by intro u hu; simp at hu; subst hu; rfl) (by unfold maxLen; omega) (by omega) (by rw [size1]; omega) ?_; intro v' w1 hown' hgrow _)
        have R' := push_step HO2.out HB2.out (by omega) hown' hgrow
        rw [← HQ.out] at R'
        have R := Lib.hid R'
        clear R' hown' hgrow HO2 HB2
        go_wp2
        go_roundw
        case rel => exact ⟨m + 1, by omega, by go_num, R.out.1, R.out.2⟩
        case measure => simp [intOf]; omega
    · obtain rfl : m = L.length := by omega
      rw [List.take_length] at hown
      go_wp2
      go_ret
      exact ⟨_, rfl, own_base hown HB3.out.size, HB3.out.trans (hbel.mono HB3.out.size)⟩
theorem znear_any (b : Nat) (C R S D V N Q x y : Int) (w : World) (h : MapAt w b C R S D V N Q) (ok : Ok C R S D V) (hx : I x) (hy : I y) :
    Calls Try.prog 25 #[.pointer (some ⟨b, 0, none⟩), .int .i64 x, .int .i64 y] w fun e w' => ∃ v, e = .returned v ∧ Own w' w.heap.size v (Zn.near C R S D x y) ∧ Below w.heap.size w w' :=
  near_walk b C R S D V N Q x y _ w h ok hx hy rfl
theorem znear_nil (x y : Int) (w : World) (hx : I x) (hy : I y) :
    Calls Try.prog 25 #[.pointer none, .int .i64 x, .int .i64 y] w fun e w' => e = .returned (.slice none 0 0) ∧ Below w.heap.size w w' :=
  near_no none (-1) x y w (Lib.hid (of_nil x y w hx hy)) (Lib.hid fun W _ => beside_nil (-1) W)
end Go.Proofs.Ytloogafnkkbigaa
