/- wal's begin, Open. -/
import Derived.Test.YtpafialojcidnaaGreatDoorWlMend
import Derived.Test.YtpafialojcidnaaGreatDoorWlRead
namespace Go.Proofs.YtpafialojcidnaaGreatDoor
open Go.RowKit Go.Maps Dk
open Wl (Lo)
set_option linter.unusedVariables false

/-- how a log begins: the disk behind it, the segments' numbers -/
def Begin (nm : Str) (K K1 : St) (ns : List Nat) : Prop := (Ns nm K ns ∧ 0 < ns.length ∧ K1 = K) ∨ (Ns nm K [] ∧ Dk.append K (Wl.file nm 0) [] = (K1, 0) ∧ ns = [0])

set_option maxHeartbeats 8000000 in
set_option maxRecDepth 100000 in
theorem lbegin_any {w W : World} {B b d : Nat} {g : Lo} {K K1 : St} {ns : List Nat} (h : Wa w B d K W) (hl : LogAt W B b d g) (hnm : g.nm.length ≤ 16) (hb : Begin g.nm K K1 ns) :
    Calls Tryz.prog 35 #[.pointer (some ⟨b, 0, none⟩)] W fun e w' => e = .returned (.int .i64 0) ∧ Wa w B d K1 w' ∧ Kp isRef W w' := by
  have hlt := hl.lt
  rcases hb with ⟨hN, hne, rfl⟩ | ⟨hN, ha, rfl⟩
  · have S := Lib.hid (segments_any W hl h.dsk hnm hN)
    have H := Lib.hid h
    have hne' : (0 : Int) < (ns.length : Int) := by omega
    clear h hl hN hne
    go_enter Tryz.func35, Tryz.ntmps35
    go_wp2_with fail
    refine S.out.mono ?_
    rintro e w1 ⟨v, rfl, hO, b1⟩
    obtain ⟨A, cap, rfl⟩ := own_len hO
    rw [nats_len]
    go_wp2
    go_ret
    exact ⟨rfl, H.out.below b1, Kp.below b1⟩
  · have S := Lib.hid (segments_any W hl h.dsk hnm hN)
    have FI := Lib.hid (fun (W1 : World) (hb : Below W.heap.size W W1) (p : Lat grows W1) => file_any p.W ((hl.below hb).below p.h) ((h.below hb).tabs.below p.h (h.below hb).size) (Nat.le_trans (h.below hb).size p.h.size) hnm 0 (by decide))
    have AP := Lib.hid (fun (W1 : World) (hb : Below W.heap.size W W1) => (at_append (h.below hb).at_ ha (by rw [Wl.file_len]; omega) (by decide)).mono (R' := fun e w' => e = .returned (.int .i64 0) ∧ Hid (Wa w B d K1 w' ∧ Kp isRef W w')) fun e w' ⟨x1, x2⟩ => ⟨x1, Lib.hid ⟨(h.below hb).via x2, (Kp.below hb).trans x2.out.2.2.kp⟩⟩)
    have K0 := Lib.hid (fun (W1 : World) (hb : Below W.heap.size W W1) => (hl.below hb).disk)
    clear h hl hN ha
    generalize Wl.file g.nm 0 = fl at *
    go_enter Tryz.func35, Tryz.ntmps35
    go_wp2_with fail
    refine S.out.mono ?_
    rintro e w1 ⟨v, rfl, hO, b1⟩
    obtain ⟨A, cap, rfl⟩ := own_len hO
    have k0 := K0.out w1 b1
    have hlt1 : b < w1.heap.size := Nat.lt_of_lt_of_le hlt b1.size
    have F := Lib.hid (FI.out w1 b1)
    rw [nats_len, List.length_nil]
    clear FI hO S
    go_wp2_with fail
    refine Og.grow 6 (by kernel_rfl) (by kernel_rfl) fun hc hf => ?_
    simp only [List.take_succ_cons, List.take_zero, List.drop_succ_cons, List.drop_zero]
    repeat (refine Og.det [] rfl (fun K hK => ?_); go_simp; first | (refine hK _ _ ?_; clear hK K) | (with_reducible refine ⟨_, fun p => Og.lays (F.out p), hK _ _ ?_⟩; clear hK K))
    refine Og.fin fun W' hW => ?_
    simp only [Og.opened_nil]
    clear hc hf
    have A2 := Lib.hid (AP.out W' (b1.trans (hW.mono b1.size)))
    clear AP
    go_wp2_with (go_at_call 26; refine A2.out.mono ?_; rintro e w2 ⟨rfl, x2⟩)
    go_ret
    exact ⟨rfl, x2.out.1, x2.out.2⟩

theorem own_reads {W : World} {B n cap : Nat} {A : Option Addr} {l : List Int} (h : Own W B (.slice A n cap) l) : Reads W W.heap.size A (ints l) := by
  obtain ⟨A', cap', e, hr⟩ := own_at h
  cases e
  exact hr
theorem its_of (ns : List Nat) (h : ∀ n ∈ ns, n ≤ 99999999) (hl : ns.length ≤ 1000000) : ∃ zs : List It, zs.length = ns.length ∧ zs.map (fun x => x.1.2) = ns ∧ ∀ k (h : k < zs.length), zs[k].1.1 = k := by
  refine ⟨(List.finRange ns.length).map fun i => ⟨(i.1, ns[i.1]), by have := i.2; omega, h _ (List.getElem_mem i.2)⟩, by simp, ?_, fun k hk => by simp⟩
  rw [List.map_map]
  apply List.ext_getElem
  · simp
  · intro i h1 h2
    simp

theorem add0 (g k : Nat) : (⟨g, 0, none⟩ : Addr).add k = ⟨g, k, none⟩ := by
  rw [Addr.add_lit, Nat.zero_add]
theorem its_slice {W : World} {B n cap c : Nat} {A : Option Addr} {ns : List Nat} (h : Own W B (.slice A n cap) (nats ns)) (hne : 0 < ns.length) (hc : c ≤ ns.length) {zs : List It} (hl : zs.length = (ns.drop c).length) (hm : zs.map (fun x => x.1.2) = ns.drop c) (hi : ∀ k (h : k < zs.length), zs[k].1.1 = k) :
    ItsAt W (A.map (fun x => x.add c)) (ns.length - c) (cap - c) zs ∧ (cap = c → ItsAt W A (ns.length - c) 0 zs) := by
  have hn : ns.length - c = zs.length := by rw [hl, List.length_drop]
  rcases h.2 with ⟨e, e2⟩ | ⟨g, cap', cur, e, _, hg, hle, _⟩
  · rw [nats_len] at e2; omega
  · cases e
    have hcell : ∀ k (hk : k < ns.length), W.cell? ⟨g, k, none⟩ = some (.int .i64 (ns[k] : Int)) := fun k hk => by
      have := World.ownsRow.cells h (g := g) rfl k (.int .i64 (ns[k] : Int)) (by unfold nats; rw [List.getElem?_map, List.getElem?_map, List.getElem?_eq_getElem hk]; rfl)
      rwa [add0] at this
    have hz : ∀ k (hk : k < zs.length), zs[k].1.2 = ns[c + k]'(by omega) := fun k hk => by
      have h1 : (zs.map (fun x => x.1.2))[k]? = (ns.drop c)[k]? := by rw [hm]
      rw [List.getElem?_map, List.getElem?_eq_getElem hk, List.getElem?_drop, List.getElem?_eq_getElem (by omega)] at h1
      exact Option.some.inj h1
    rw [nats_len] at hle
    refine ⟨⟨hn, hi, .inr ⟨g, c, cur, ?_, hg, fun k hk => ?_⟩⟩, fun hcc => ⟨hn, hi, .inr ⟨g, 0, cur, rfl, hg, fun k hk => ?_⟩⟩⟩
    · show some ((⟨g, 0, none⟩ : Addr).add c) = some ⟨g, c, none⟩
      rw [add0]
    · rw [hcell (c + k) (by omega), hz k hk]
    · omega

set_option maxHeartbeats 16000000 in
set_option maxRecDepth 100000 in
theorem lopen_any {w W : World} {B d : Nat} {nm : Str} {K K1 K2 K3 K4 : St} {ns : List Nat} (h : Wa w B d K W) (h1 : 1 ≤ nm.length) (h2 : nm.length ≤ 16) (h3 : ∀ c ∈ nm, c.toNat < 128 ∧ c ∈ lets) (hb : Begin nm K K1 ns) (hN : Ns nm K1 ns) (hne : 0 < ns.length)
    {R : Wl.Rd} (hR : Wl.rd K1 nm ns 0 ns[0] 0 = R) (hc : R.count ≤ ns.length) (hlast : R.last ≤ 99999999) (hfin : R.fin ≤ 4194304) (hr : Wl.Rem nm K1 (ns.drop R.count).reverse K2) (ht : Dk.trunc K2 (Wl.file nm R.last) (R.fin : Int) = (K3, 0)) (hs : Dk.sync K3 (Wl.file nm R.last) = (K4, 0)) :
    Calls Tryz.prog 15 #[.pointer (some ⟨d, 0, none⟩), .string ⟨nm.toArray⟩] W fun x w' => ∃ b v, x = .returned (.tuple #[.pointer (some ⟨b, 0, none⟩), v, .int .i64 0]) ∧ W.heap.size ≤ b ∧ OwnS w' W.heap.size v R.recs ∧ Wa w B d K4 w' ∧ LogAt w' B b d ⟨nm, R.last, R.next⟩ ∧ Kp isRef W w' := by
  have hlens : ns.length ≤ 64 := by
    have hok : Ok K1 := by
      rcases hb with ⟨_, _, rfl⟩ | ⟨_, ha, _⟩
      · exact h.dsk.ok
      · have := ok_append h.dsk.ok (Wl.file nm 0) []
        rw [ha] at this
        exact this
    have := congrArg List.length hN.1
    rw [List.length_map, List.length_map] at this
    rw [← this]
    exact hok.few
  have M := Lib.hid (lmay_any nm W h1 h2 h3)
  have CL := Lib.hid (fun W1 => clone_any nm W1 (by omega))
  have BG := Lib.hid (fun (W1 : World) (b : Nat) (x : Wa w B d K W1) (y : LogAt W1 B b d ⟨nm, 0, 0⟩) => lbegin_any x y h2 hb)
  have SG := Lib.hid (fun (W1 : World) (b : Nat) (x : Wa w B d K1 W1) (y : LogAt W1 B b d ⟨nm, 0, 0⟩) => segments_any W1 y x.dsk h2 hN)
  have RD := Lib.hid (fun (W1 : World) (b : Nat) (x : Wa w B d K1 W1) (y : LogAt W1 B b d ⟨nm, 0, 0⟩) (A : Option Addr) (cap : Nat) (hr : ∀ W' K', Wa W1 B d K' W' → Reads W' W'.heap.size A (ints (nats ns))) => read_log (B := B) (d := d) (K := K1) (R := R) x.here y h2 hN hne A cap hr hR)
  have H := Lib.hid h
  clear h h3 hb
  go_enter Tryz.func15, Tryz.ntmps15
  go_wp2_with fail
  refine M.out.mono ?_
  rintro e w1 ⟨rfl, b1⟩
  go_wp2_with fail
  refine (CL.out _).mono ?_
  rintro e w2 ⟨rfl, b2⟩
  have b12 := b1.trans (b2.mono b1.size)
  have hx := at1 w2 (.cells #[.pointer (some ⟨d, 0, none⟩), .string ⟨nm.toArray⟩, .int .i64 0, .int .i64 0] 59)
  have b3 := bel1 w2 (.cells #[.pointer (some ⟨d, 0, none⟩), .string ⟨nm.toArray⟩, .int .i64 0, .int .i64 0] 59)
  have b13 := b12.trans (b3.mono b12.size)
  have H3 := H.out.below b13
  have L3 : LogAt (w2.alloc (.cells #[.pointer (some ⟨d, 0, none⟩), .string ⟨nm.toArray⟩, .int .i64 0, .int .i64 0] 59)) B w2.heap.size d ⟨nm, 0, 0⟩ := ⟨Nat.le_trans H.out.size b12.size, hx⟩
  have BG3 := Lib.hid (BG.out _ _ H3 L3)
  generalize hw3 : w2.alloc (.cells #[.pointer (some ⟨d, 0, none⟩), .string ⟨nm.toArray⟩, .int .i64 0, .int .i64 0] 59) = w3 at *
  clear CL M BG
  go_wp2_with fail
  refine BG3.out.mono ?_
  rintro e w4 ⟨rfl, x4, k4⟩
  have L4 := L3.kp k4
  have K04 : Hid (Kp isRef W w4) := Lib.hid ((Kp.below b13).trans k4)
  have S4 := Lib.hid (SG.out _ _ x4 L4)
  have R5 := Lib.hid (fun (w5 : World) (b5 : Below w4.heap.size w4 w5) => RD.out w5 _ (x4.below b5) (L4.below b5))
  have X4 := Lib.hid x4
  have HL4 := Lib.hid L4
  have s4 : Hid (W.heap.size ≤ w2.heap.size ∧ w2.heap.size < w4.heap.size) := Lib.hid ⟨b12.size, L4.lt⟩
  generalize w2.heap.size = b at *
  clear BG3 SG RD x4 k4 L4 L3 H3 hx b1 b2 b3 b12 hw3
  go_wp2_with fail
  refine S4.out.mono ?_
  rintro e w5 ⟨v, rfl, hO, b5⟩
  obtain ⟨A, cap, rfl⟩ := own_len hO
  have R6 := Lib.hid (R5.out w5 b5 A cap fun W' K' hw => own_reads (own_kp hO (p := isLog) (fun _ => rfl) hw.gone.kp))
  have HO := Lib.hid hO
  have B5 := Lib.hid b5
  rw [nats_len]
  clear R5 S4 hO b5
  go_wp2_with fail
  refine R6.out.mono ?_
  rintro e w6 ⟨u, rfl, hu, x6, l6, g6⟩
  clear R6
  obtain ⟨zs, z1, z2, z3⟩ := its_of (ns.drop R.count) (fun n hn => hN.2 n (List.mem_of_mem_drop hn)) (by rw [List.length_drop]; omega)
  obtain ⟨i1, i2⟩ := its_slice (own_kp HO.out (p := isLog) (fun _ => rfl) x6.gone.kp) hne hc z1 z2 z3
  have hrr : Wl.Rem nm K1 (zs.reverse.map fun x => x.1.2) K2 := by rw [List.map_reverse, z2]; exact hr
  have X6 : Wa w B d K1 w6 := (X4.out.below B5.out).trans x6
  have ME := Lib.hid (fun (A' : Option Addr) (c' : Nat) (hz : ItsAt w6 A' (ns.length - R.count) c' zs) => mend_any X6 l6 h2 hlast A' (ns.length - R.count) c' zs hz (by omega) R.fin hfin hrr ht hs)
  have I1 := Lib.hid i1
  have I2 := Lib.hid i2
  have K06 : Hid (Kp isRef W w6) := Lib.hid fun i o hi ho => by
    have h5 := (K04.out.trans (Kp.below B5.out)) i o hi ho
    exact (g6 i (heap_lt h5) (by have := heap_lt hi; have := s4.out.1; omega)).trans h5
  have HU := Lib.hid hu
  have S5 : Hid (W.heap.size ≤ w5.heap.size) := Lib.hid (by have := s4.out; have := B5.out.size; omega)
  have L6 := Lib.hid l6
  clear hu l6 x6 X6 i1 i2 hrr z1 z2 z3 hr ht hs HO B5 X4 HL4 hR
  go_wp2_with (go_at_call 37; refine (ME.out _ _ (by first | exact I1.out | exact I2.out (by assumption))).mono ?_; rintro e w7 ⟨rfl, x7, k7⟩)
  all_goals
    go_ret3
    exact ⟨b, u, rfl, s4.out.1, owns_base (owns_kp HU.out (p := isRef) (fun _ => rfl) k7) S5.out, x7, L6.out.kp k7, K06.out.trans k7⟩
end Go.Proofs.YtpafialojcidnaaGreatDoor
