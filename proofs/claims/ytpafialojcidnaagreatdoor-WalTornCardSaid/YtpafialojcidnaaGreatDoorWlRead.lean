/- wal's read. -/
import Derived.Test.YtpafialojcidnaaGreatDoorWlFrames
namespace Go.Proofs.YtpafialojcidnaaGreatDoor
open Go.RowKit Go.Maps Dk
open Wl (Lo Rd)
set_option linter.unusedVariables false

/-- what is left to be read, and what was -/
def Left (K : St) (nm : Str) (R : Rd) (ns : List Nat) (m : Nat) (acc : List Str) (last next fin : Nat) : Prop :=
  acc ++ (Wl.rd K nm (ns.drop m) last next fin).recs = R.recs ∧ m + (Wl.rd K nm (ns.drop m) last next fin).count = R.count ∧ (Wl.rd K nm (ns.drop m) last next fin).fin = R.fin ∧
    (Wl.rd K nm (ns.drop m) last next fin).last = R.last ∧ (Wl.rd K nm (ns.drop m) last next fin).next = R.next
section
variable {K : St} {nm : Str} {R : Rd} {ns : List Nat} {m last next fin : Nat} {acc : List Str}
theorem Left.out (h : Left K nm R ns m acc last next fin) (hm : m = ns.length) : acc = R.recs ∧ m = R.count ∧ fin = R.fin ∧ last = R.last ∧ next = R.next := by
  unfold Left at h
  rw [List.drop_eq_nil_of_le (by omega)] at h
  simpa [Wl.rd] using h
theorem Left.other (h : Left K nm R ns m acc last next fin) (hm : m < ns.length) (hn : ns[m] ≠ next) : acc = R.recs ∧ m = R.count ∧ fin = R.fin ∧ last = R.last ∧ next = R.next := by
  unfold Left at h
  rw [List.drop_eq_getElem_cons hm, Wl.rd, if_neg hn] at h
  simpa using h
theorem Left.torn (h : Left K nm R ns m acc last next fin) (hm : m < ns.length) (hn : ns[m] = next) {s : Str} (hs : Wl.got K nm ns[m] = s) (ht : Fr.place (Fr.all s) < s.length) :
    acc ++ Fr.all s = R.recs ∧ m + 1 = R.count ∧ Fr.place (Fr.all s) = R.fin ∧ ns[m] = R.last ∧ ns[m] + (Fr.all s).length = R.next := by
  unfold Left at h
  rw [List.drop_eq_getElem_cons hm, Wl.rd, if_pos hn, hs, if_pos ht] at h
  exact h
theorem Left.go (h : Left K nm R ns m acc last next fin) (hm : m < ns.length) (hn : ns[m] = next) {s : Str} (hs : Wl.got K nm ns[m] = s) (ht : ¬ Fr.place (Fr.all s) < s.length) :
    Left K nm R ns (m + 1) (acc ++ Fr.all s) ns[m] (ns[m] + (Fr.all s).length) (Fr.place (Fr.all s)) := by
  unfold Left at h ⊢
  rw [List.drop_eq_getElem_cons hm, Wl.rd, if_pos hn, hs, if_neg ht] at h
  obtain ⟨h1, h2, h3, h4, h5⟩ := h
  exact ⟨by rw [List.append_assoc]; exact h1, by simp only at h2; omega, h3, h4, h5⟩
end

set_option maxHeartbeats 16000000 in
set_option maxRecDepth 100000 in
theorem read_log {W : World} {B b d : Nat} {g : Lo} {K : St} (h : Wa W B d K W) (hl : LogAt W B b d g) (hnm : g.nm.length ≤ 16) {ns : List Nat} (hN : Ns g.nm K ns) (hne : 0 < ns.length) (A : Option Addr) (cap : Nat)
    (hr : ∀ W' K', Wa W B d K' W' → Reads W' W'.heap.size A (ints (nats ns))) {R : Rd} (hR : Wl.rd K g.nm ns g.last ns[0] 0 = R) :
    Calls Tryz.prog 36 #[.pointer (some ⟨b, 0, none⟩), .slice A ns.length cap] W fun x w' => ∃ v, x = .returned (.tuple #[v, .int .i64 (R.count : Int), .int .i64 (R.fin : Int)]) ∧ OwnS w' W.heap.size v R.recs ∧ Wa W B d K w' ∧ LogAt w' B b d ⟨g.nm, R.last, R.next⟩ ∧ Ag (· = b) W w' := by
  have hns : ns.length ≤ 64 := by
    have := congrArg List.length hN.1
    rw [List.length_map, List.length_map] at this
    rw [← this]
    exact h.dsk.ok.few
  obtain ⟨nm, last0, next0⟩ := g
  dsimp only at *
  have hgot := fun n (hn : n ∈ ns) => hN.read h.dsk.ok hn
  have F := Lib.hid (fun (W1 : World) (h1 : Wa W B d K W1) (g : Lo) (hg : g.nm = nm) (h2 : LogAt W1 B b d g) (k : Nat) (hk : k < ns.length) => by
    have := frames_any W1 h2 h1.dsk h1.tabs h1.size (by rw [hg]; exact hnm) (n := ns[k]) (s := Wl.got K nm ns[k]) (hN.2 _ (List.getElem_mem hk)) (by rw [hg]; exact (hgot _ (List.getElem_mem hk)).1) (hgot _ (List.getElem_mem hk)).2
    exact this)
  have AL := Lib.hid (fun k (hk : k < ns.length) => And.intro (all_len (Wl.got K nm ns[k])) (And.intro (hgot _ (List.getElem_mem hk)).2 (hN.2 _ (List.getElem_mem hk))))
  have hlt := hl.lt
  obtain ⟨bk, off, rfl, hbB, hcell⟩ := (hr _ _ h).at_ (k := 0) (by simpa [ints, nats] using hne)
  have hc0 : W.cell? ⟨bk, off, none⟩ = some (.int .i64 (ns[0] : Int)) := by have := hcell; simpa [ints, nats] using this
  obtain ⟨⟨c0, c1, c2, c3⟩, z0, z1, z2, z3⟩ := box4 hl.box
  have W1 : Hid (Kp isNlg W (W.setCell ⟨b, 3, none⟩ (.int .i64 (ns[0] : Int))) ∧ Below B W (W.setCell ⟨b, 3, none⟩ (.int .i64 (ns[0] : Int))) ∧ Ag (· = b) W (W.setCell ⟨b, 3, none⟩ (.int .i64 (ns[0] : Int)))) := Lib.hid ⟨hl.keeps 3 _, (Below.refl B W).setCell hl.base _, fun i _ hi => Below.heap_setCell _ _ _ _ hi⟩
  have WA := Lib.hid (fun W' (k : Kp isNlg W W') (hb : Below B W W') => h.kept k hb)
  have hB := h.size
  have L1 := Lib.hid (hl.set3 ns[0])
  have ST : Hid (Left K nm R ns 0 [] last0 ns[0] 0) := Lib.hid ⟨by rw [List.drop_zero, hR]; rfl, by rw [List.drop_zero, hR]; omega, by rw [List.drop_zero, hR], by rw [List.drop_zero, hR], by rw [List.drop_zero, hR]⟩
  have HR := Lib.hid (fun W' K' (k : Wa W B d K' W') => hr W' K' k)
  have hne' : (0 : Int) < (ns.length : Int) := by omega
  clear h hl hN hr hR hcell hgot c0 c1 c2
  generalize hn0 : ns[0] = n0 at *
  clear hn0
  go_enter Tryz.func36, Tryz.ntmps36
  go_wp2
  generalize (W.setCell ⟨b, 3, none⟩ (.int .i64 (n0 : Int))) = W0 at *
  clear c3 z0 z1 z2 z3
  go_loopw [4, 5, 6, 20] (fun v c f i wr => ∃ (m last next fin : Nat) (acc : List Str), m ≤ ns.length ∧ i = .int .i64 m ∧ c = .int .i64 m ∧ f = .int .i64 fin ∧ acc.length ≤ m * 4194304 ∧ Hid (Left K nm R ns m acc last next fin) ∧ Hid (OwnS wr W.heap.size v acc) ∧ Hid (Kp isNlg W wr ∧ Below B W wr ∧ Ag (· = b) W wr) ∧ Hid (LogAt wr B b d ⟨nm, last, next⟩)) (fun _ _ _ i _ => ns.length - (intOf i).toNat)
  case atStart => exact ⟨0, _, _, 0, [], Nat.zero_le _, rfl, rfl, rfl, by simp, ST, Lib.hid (owns_nil _ _), W1, L1⟩
  case round =>
    obtain ⟨m, last, next, fin, acc, hm, rfl, rfl, rfl, hal, hle, hown, hkp, hlog⟩ := hrel
    have hwa := Lib.hid (WA.out _ hkp.out.1 hkp.out.2.1)
    clear ST W1 L1
    by_cases hlt2 : m < ns.length
    · obtain ⟨bk', off', hbk, hbB', hcell⟩ := (HR.out _ _ hwa.out).at_ (k := m) (by simpa [ints, nats] using hlt2)
      obtain ⟨rfl, rfl⟩ : bk' = bk ∧ off' = off := by simpa [eq_comm] using hbk
      have hcw : wr.cell? ⟨bk', off' + m, none⟩ = some (.int .i64 (ns[m] : Int)) := by rw [hcell]; simp [ints, nats]
      have k3 := hlog.out.next
      clear hcell hbk
      by_cases hnn : ns[m] = next
      · have N := Lib.hid (F.out wr hwa.out _ rfl hlog.out m hlt2)
        obtain ⟨a1, a2, a3⟩ := AL.out m hlt2
        obtain ⟨s, hs⟩ : ∃ s, Wl.got K nm ns[m] = s := ⟨_, rfl⟩
        have HT := Lib.hid (fun h => hle.out.torn hlt2 hnn hs h)
        have HG := Lib.hid (fun h => hle.out.go hlt2 hnn hs h)
        rw [hs] at N a1 a2
        have hnn' : ((ns[m] : Int) != (next : Int)) = false := by simp; omega
        generalize hn : (ns[m] : Nat) = n at *
        clear hs hle hn
        subst hnn
        go_wp2_with fail
        refine N.out.mono ?_
        rintro e w2 ⟨u, rfl, hO2, b2⟩
        obtain ⟨A2, cap2, rfl⟩ := owns_len hO2
        have hsz := hwa.out.gone.bel.size
        obtain ⟨v', w3, hr, ho, hb3⟩ := append_rows (owns_below hown.out b2) hO2 (Nat.le_trans hsz b2.size) (by omega) 22
        have HA := Lib.hid hr
        have l2 := hlog.out.below b2
        have l3 : LogAt w3 B b d ⟨nm, last, n⟩ := ⟨l2.base, (hb3.block b hlt).trans l2.box⟩
        obtain ⟨⟨_, _, c2, c3⟩, _, _, z2, z3⟩ := box4 l3.box
        have l4 := l3.set2 n
        have l5 := l4.set3 (n + (Fr.all s).length)
        have kk : Kp isNlg w3 ((w3.setCell ⟨b, 2, none⟩ (.int .i64 (n : Int))).setCell ⟨b, 3, none⟩ (.int .i64 ((n + (Fr.all s).length : Nat) : Int))) := (l3.keeps 2 _).trans (l4.keeps 3 _)
        have KP : Hid (Kp isNlg W ((w3.setCell ⟨b, 2, none⟩ (.int .i64 (n : Int))).setCell ⟨b, 3, none⟩ (.int .i64 ((n + (Fr.all s).length : Nat) : Int))) ∧ Below B W ((w3.setCell ⟨b, 2, none⟩ (.int .i64 (n : Int))).setCell ⟨b, 3, none⟩ (.int .i64 ((n + (Fr.all s).length : Nat) : Int))) ∧ Ag (· = b) W ((w3.setCell ⟨b, 2, none⟩ (.int .i64 (n : Int))).setCell ⟨b, 3, none⟩ (.int .i64 ((n + (Fr.all s).length : Nat) : Int)))) :=
          Lib.hid ⟨((hkp.out.1.trans (Kp.below b2)).low hb3).trans kk, (((hkp.out.2.1.trans (b2.mono (Nat.le_trans hB hsz))).trans (hb3.mono hB)).setCell l3.base _).setCell l3.base _, fun i hi hne => ((Below.heap_setCell _ _ _ _ hne).trans (Below.heap_setCell _ _ _ _ hne)).trans ((hb3.block i hi).trans ((b2.block i (Nat.lt_of_lt_of_le hi hsz)).trans (hkp.out.2.2 i hi hne)))⟩
        have HO := Lib.hid (owns_kp ho (p := isNlg) (fun _ => rfl) kk)
        have L5 := Lib.hid l5
        have hw : IntKind.i64.wrap ((n : Int) + ((Fr.all s).length : Int)) = ((n + (Fr.all s).length : Nat) : Int) := by rw [IntWalk.i64_in _ ⟨by omega, by omega⟩]; omega
        have hw2 : IntKind.i64.wrap ((m : Int) + 1) = ((m + 1 : Nat) : Int) := by rw [IntWalk.i64_in _ ⟨by omega, by omega⟩]; omega
        have hal2 : (acc ++ Fr.all s).length ≤ (m + 1) * 4194304 := by rw [List.length_append]; omega
        clear hr hO2 ho hb3 b2 N hkp hlog hown hwa l2 l3 l4 l5 kk F AL hal
        generalize (acc ++ Fr.all s) = acc2 at *
        generalize hfl : Fr.place (Fr.all s) = fl at *
        generalize (Fr.all s).length = al at *
        generalize n + al = nx at *
        generalize s.length = sl at *
        clear hfl
        dsimp only at c2 c3
        by_cases ht : fl < sl
        · have ht' : (fl : Int) < (sl : Int) := by omega
          have H := Lib.hid (HT.out ht)
          clear HT HG ht
          go_wp2_with (at_builtin; refine wpList_append _ rfl (.tmp 37) (.tmp 38) _ _ rfl _ _ rfl rfl _ _ HA.out ?_)
          go_ret3
          obtain ⟨rfl, h2, rfl, rfl, rfl⟩ := H.out

          exact ⟨_, ret_three rfl (by first | (rw [← h2]; done) | (rw [← h2]; rfl)) rfl, HO.out, WA.out _ KP.out.1 KP.out.2.1, L5.out, KP.out.2.2⟩
        · have ht' : ¬ (fl : Int) < (sl : Int) := by omega
          have H := Lib.hid (HG.out ht)
          clear HT HG ht
          go_wp2_with (at_builtin; refine wpList_append _ rfl (.tmp 37) (.tmp 38) _ _ rfl _ _ rfl rfl _ _ HA.out ?_)
          go_roundw
          case rel => exact ⟨m + 1, n, nx, fl, acc2, by omega, by go_num, by go_num, rfl, hal2, H, HO, KP, L5⟩
          case measure => simp [intOf]; omega
      · have hnn' : ((ns[m] : Int) != (next : Int)) = true := by simp; omega
        have H := Lib.hid (hle.out.other hlt2 hnn)
        clear hle hnn
        go_wp2
        go_ret3
        obtain ⟨rfl, h2, rfl, rfl, rfl⟩ := H.out
        exact ⟨_, ret_three rfl (by first | (rw [← h2]; done) | (rw [← h2]; rfl)) rfl, hown.out, hwa.out, hlog.out, hkp.out.2.2⟩
    · have H := Lib.hid (hle.out.out (by omega))
      clear hle
      go_wp2
      go_ret3
      obtain ⟨rfl, h2, rfl, rfl, rfl⟩ := H.out
      exact ⟨_, ret_three rfl (by first | (rw [← h2]; done) | (rw [← h2]; rfl)) rfl, hown.out, hwa.out, hlog.out, hkp.out.2.2⟩
end Go.Proofs.YtpafialojcidnaaGreatDoor
