/- The document's put. -/
import Derived.Test.YtklgiocihknebaaDkRef3
import Derived.BigQuiet
namespace Go.Proofs.Ytklgiocihknebaa
open Go.RowKit Go.Maps Dk
set_option linter.unusedVariables false

theorem ownf_form {W : World} {B n : Nat} {v : Value} {xs : List Value} (h : W.ownsRow B 70 3 v n xs) : ∃ A c, v = .slice A n c := by
  rcases h.2 with ⟨e, e'⟩ | ⟨g, cap, cur, e, _⟩
  · exact ⟨none, 0, by rw [e, e']⟩
  · exact ⟨_, _, e⟩
/-- one file more, behind a new box of it -/
theorem push_file (W : World) {B : Nat} {v : Value} {L : List Fl} (h : OwnF W B v L) (hB : B ≤ W.heap.size) (hl : L.length ≤ 100) (f : Fl) (ty : TypeId) :
    ∃ v' w', (Builtin.append_ #[26, 26] ty #[v, .slice (some ⟨W.heap.size, 0, none⟩) 1 1]).run Try.prog (W.alloc (.cells #[.string ⟨f.name.toArray⟩, .string ⟨f.sure.toArray⟩, .string ⟨f.loose.toArray⟩] 70)) = .ok v' w' ∧
      OwnF w' B v' (L ++ [f]) ∧ Below B W w' ∧ ∃ A n c, v' = .slice A n c := by
  obtain ⟨v', w', r, ho, hg, _⟩ := append_rows (W.alloc (.cells #[.string ⟨f.name.toArray⟩, .string ⟨f.sure.toArray⟩, .string ⟨f.loose.toArray⟩] 70)) (ownf_below h (bel1 W _)) ⟨W.heap.size, 0, none⟩ 1 1 (fcells f) rfl (fcells_new W f _) (fcells_one f) (by omega) (by rw [size1]; omega) ty
  obtain ⟨A, c, e⟩ := ownf_form ho
  exact ⟨v', w', r, ownf_snoc ho, (((Below.refl B W).alloc hB _).grown hg (by rw [size1]; omega) (fun k hk => (World.ownsRow.lt h k hk).1)), A, _, c, e⟩

/-- the files from a place on, as a slice -/
def From (K : St) (v : Value) (k : Nat) (sv : Value) : Prop := (v = .slice none 0 0 ∧ K.L = [] ∧ sv = .slice none 0 0) ∨ ∃ g c, v = .slice (some ⟨g, 0, none⟩) K.L.length c ∧ (c = k ∧ sv = .slice (some ⟨g, 0, none⟩) 0 0 ∨ c ≠ k ∧ sv = .slice (some ⟨g, k * 3, none⟩) (K.L.length - k) (c - k))
theorem put_end {w wr W : World} {B B1 d k : Nat} {K : St} {v l sv : Value} {q : Int} (h : RLay w B d K v q) (hw : Below w.heap.size w wr) (hB1 : w.heap.size ≤ B1) (hB1' : B1 ≤ wr.heap.size) (hW : Below wr.heap.size wr W) (ho : OwnF wr B1 l (K.L.take k)) (hk : k ≤ K.L.length) (x : Fl) (hins : ins K.L x = K.L.take k ++ x :: K.L.drop k) (hok : Ok { K with L := ins K.L x }) (hsv : From K v k sv) :
    ∃ va wa, (Builtin.append_ #[26, 26] 26 #[l, .slice (some ⟨W.heap.size, 0, none⟩) 1 1]).run Try.prog (W.alloc (.cells #[.string ⟨x.name.toArray⟩, .string ⟨x.sure.toArray⟩, .string ⟨x.loose.toArray⟩] 70)) = .ok va wa ∧ wa.cell? ⟨d, 0, none⟩ = some v ∧
      ∃ vb wb, (Builtin.append_ #[26, 26] 26 #[va, sv]).run Try.prog wa = .ok vb wb ∧ (∃ A n c, vb = .slice A n c) ∧ (∃ y, wb.cell? ⟨d, 0, none⟩ = some y) ∧ wb.frozen? ⟨d, 0, none⟩ = false ∧
        Hid ((∃ v', RLay (wb.setCell ⟨d, 0, none⟩ vb) B d { K with L := ins K.L x } v' q) ∧ Gone isDsk B w (wb.setCell ⟨d, 0, none⟩ vb)) := by
  have hfew := h.ok.few
  have hB : B ≤ w.heap.size := Nat.le_trans h.base (Nat.le_of_lt h.lt)
  obtain ⟨va, wa, r1, o1, b1, _⟩ := push_file W (ownf_below ho hW) (Nat.le_trans hB1' hW.size) (by rw [List.length_take]; omega) x 26
  have bwa : Below w.heap.size w wa := hw.trans ((hW.mono (Nat.le_trans hB1 hB1')).trans (b1.mono hB1))
  have hrow := row_kept h.row (W' := wa) fun b hb => bwa.block b (by obtain ⟨_, cs, h2⟩ := row_block h.row hb; exact heap_lt h2)
  have hca := (box4 ((bwa.block d h.lt).trans h.box)).1.1
  have hla : (K.L.take k ++ [x]).length = k + 1 := by rw [List.length_append, List.length_take]; simp; omega
  have hlen : B1 ≤ wa.heap.size := Nat.le_trans hB1' (Nat.le_trans hW.size b1.size)
  have key : ∃ vb wb, (Builtin.append_ #[26, 26] 26 #[va, sv]).run Try.prog wa = .ok vb wb ∧ OwnF wb B1 vb (K.L.take k ++ [x] ++ K.L.drop k) ∧ wa.grownBy wb va.ownBlock := by
    have src : ∀ (ad : Addr) (cp : Nat), (∀ j u, (rcells (K.L.drop k))[j]? = some u → wa.cell? (ad.add j) = some u) → ∃ vb wb, (Builtin.append_ #[26, 26] 26 #[va, .slice (some ad) (K.L.length - k) cp]).run Try.prog wa = .ok vb wb ∧ OwnF wb B1 vb (K.L.take k ++ [x] ++ K.L.drop k) ∧ wa.grownBy wb va.ownBlock := fun ad cp hn => by
      obtain ⟨vb, wb, r2, o2, g2, _⟩ := append_rows wa o1 ad (K.L.length - k) cp (rcells (K.L.drop k)) (by rw [rcells_len, List.length_drop]) hn (rcells_oneCell _) (by rw [hla]; omega) hlen 26
      refine ⟨vb, wb, r2, ?_, g2⟩
      show wb.ownsRow _ _ 3 vb (K.L.take k ++ [x] ++ K.L.drop k).length (rcells (K.L.take k ++ [x] ++ K.L.drop k))
      rw [rcells_append, List.length_append, List.length_drop]
      exact o2
    rcases hsv with ⟨rfl, hL, rfl⟩ | ⟨g, c, rfl, ⟨rfl, rfl⟩ | ⟨hne, rfl⟩⟩
    · refine ⟨va, wa, append_nought wa o1 _, ?_, ⟨rfl, rfl, rfl, Nat.le_refl _, fun _ _ _ => rfl⟩⟩
      rw [hL] at o1 ⊢
      simpa using o1
    · have hcap : K.L.length ≤ c := by
        rcases hrow.2 with ⟨e, _⟩ | ⟨_, _, _, e, _, _, e2, _⟩
        · cases e
        · cases e; exact e2
      have := src ⟨g, 0, none⟩ 0 (by rw [List.drop_eq_nil_of_le (by omega)]; intro j u hj; simp [rcells] at hj)
      rwa [show K.L.length - c = 0 by omega] at this
    · exact src ⟨g, k * 3, none⟩ (c - k) (by rw [rcells_drop _ _ hk]; exact row_from hrow k hk)
  obtain ⟨vb, wb, r2, o2, g2⟩ := key
  have bwb : Below w.heap.size w wb := bwa.grown g2 bwa.size (fun j hj => Nat.le_trans hB1 (o1.lt j hj).1)
  rw [List.append_assoc, List.singleton_append, ← hins] at o2
  obtain ⟨k1, k2, k3, k4⟩ := h.refiled hok bwb ⟨o2.1, o2.2.imp id fun ⟨g, cap, cur, a, b, d⟩ => ⟨g, cap, cur, a, Nat.le_trans hB (Nat.le_trans hB1 b), d⟩⟩ (fun b hb => by have := (o2.lt b hb).1; have := h.lt; omega)
  obtain ⟨A, c, e⟩ := ownf_form o2
  exact ⟨va, wa, r1, hca, vb, wb, r2, ⟨A, _, c, e⟩, k3, k4, Lib.hid ⟨⟨_, k1⟩, k2⟩⟩

set_option maxHeartbeats 16000000 in
set_option maxRecDepth 100000 in
theorem rput_any (w : World) {B d : Nat} {K : St} {v : Value} {q : Int} (h : RLay w B d K v q) (x : Fl) (hok : Ok { K with L := ins K.L x }) :
    Calls Try.prog 51 #[.pointer (some ⟨d, 0, none⟩), .agg #[.string ⟨x.name.toArray⟩, .string ⟨x.sure.toArray⟩, .string ⟨x.loose.toArray⟩]] w fun e w' => e = .returned (.tuple #[]) ∧ (∃ v', RLay w' B d { K with L := ins K.L x } v' q) ∧ Gone isDsk B w w' := by
  have hd := h.lt
  have hB : B ≤ w.heap.size := Nat.le_trans h.base (Nat.le_of_lt hd)
  have hal := bel1 w (.cells #[.string ⟨x.name.toArray⟩, .string ⟨x.sure.toArray⟩, .string ⟨x.loose.toArray⟩] 70)
  have h1 := h.below hal
  have hbx := at1 w (.cells #[.string ⟨x.name.toArray⟩, .string ⟨x.sure.toArray⟩, .string ⟨x.loose.toArray⟩] 70)
  have hsz := size1 w (.cells #[.string ⟨x.name.toArray⟩, .string ⟨x.sure.toArray⟩, .string ⟨x.loose.toArray⟩] 70)
  have HH := Lib.hid h1
  have HB := Lib.hid hB
  have HX := Lib.hid hbx
  have HA := Lib.hid hal
  have HOK := Lib.hid hok
  have HFB : Hid (w.heap.size = w.heap.size) := Lib.hid rfl
  have hfew := h.ok.few
  clear h h1 hbx hal hok hd hB
  go_enter Try.func51, Try.ntmps51
  go_wp2
  generalize w.alloc (.cells #[.string ⟨x.name.toArray⟩, .string ⟨x.sure.toArray⟩, .string ⟨x.loose.toArray⟩] 70) = w1 at *
  have hb1 := Below.refl w1.heap.size w1
  have HSZ := Lib.hid hsz
  clear hsz
  go_loopw [4, 5] (fun l i wr => ∃ k : Nat, k ≤ K.L.length ∧ i = .int .i64 k ∧ Hid (OwnF wr w1.heap.size l (K.L.take k)) ∧ Hid (∀ j (h : j < K.L.length), j < k → K.L[j].name < x.name) ∧ Hid (Below w1.heap.size w1 wr)) (fun _ i _ => K.L.length - (intOf i).toNat)
  case atStart => exact ⟨0, Nat.zero_le _, rfl, Lib.hid (ownf_nil _ _), Lib.hid (fun j _ hj => by omega), Lib.hid hb1⟩
  case round =>
    obtain ⟨k, hk, rfl, hown, hlow, hbel⟩ := hrel
    clear hb1
    have hr := HH.out.below hbel.out
    obtain ⟨⟨c0, _, _, _⟩, _⟩ := box4 hr.box
    obtain ⟨⟨x0, x1, x2⟩⟩ : (wr.cell? ⟨w.heap.size, 0, none⟩ = some (.string ⟨x.name.toArray⟩) ∧ wr.cell? ⟨w.heap.size, 1, none⟩ = some (.string ⟨x.sure.toArray⟩) ∧ wr.cell? ⟨w.heap.size, 2, none⟩ = some (.string ⟨x.loose.toArray⟩)) ∧ True := by
      have := (hbel.out.block w.heap.size (by rw [HSZ.out]; omega)).trans HX.out
      exact ⟨⟨cellAt this 0, cellAt this 1, cellAt this 2⟩, trivial⟩
    have hsz1 := hbel.out.size
    have htl : (K.L.take k).length ≤ 100 := by rw [List.length_take]; omega
    by_cases hgo : ∃ hlt : k < K.L.length, K.L[k].name < x.name
    · obtain ⟨hlt, hnm⟩ := hgo
      obtain ⟨g, c, hv, _, _, _, ⟨n0, n1, n2⟩, _⟩ := hr.at_ hlt
      rw [hv] at c0
      have hq : Op.bytesLess K.L[k].name x.name = true := by rw [bytesLess_eq]; exact decide_eq_true hnm
      have HN : Hid (∀ j (h : j < K.L.length), j < k + 1 → K.L[j].name < x.name) := Lib.hid fun j hj hj' => by
        rcases Nat.lt_or_ge j k with h' | h'
        · exact hlow.out j hj h'
        · obtain rfl : j = k := by omega
          exact hnm
      have HP : Hid (∀ W, Below wr.heap.size wr W → ∃ v' w', (Builtin.append_ #[26, 26] 26 #[u4, .slice (some ⟨W.heap.size, 0, none⟩) 1 1]).run Try.prog (W.alloc (.cells #[.string ⟨K.L[k].name.toArray⟩, .string ⟨K.L[k].sure.toArray⟩, .string ⟨K.L[k].loose.toArray⟩] 70)) = .ok v' w' ∧
          Hid (OwnF w' w1.heap.size v' (K.L.take (k + 1)) ∧ Below w1.heap.size w1 w')) := Lib.hid fun W hW => by
        obtain ⟨v', w', r, ho, hbl, _⟩ := push_file W (ownf_below hown.out hW) (Nat.le_trans hsz1 hW.size) htl K.L[k] 26
        rw [← List.take_succ_eq_append_getElem hlt] at ho
        exact ⟨v', w', r, Lib.hid ⟨ho, (hbel.out.trans (hW.mono hsz1)).trans hbl⟩⟩
      have hlt' : (k : Int) < (K.L.length : Int) := by omega
      clear hnm hr hv hown hlow hbel htl
      generalize K.L[k].name = nm at *
      generalize K.L[k].sure = su at *
      generalize K.L[k].loose = lo at *
      go_wp2_with fail
      go_quiet (fail)
      go_wp2_with (at_builtin; obtain ⟨v', w', r, HE⟩ := HP.out _ (below_dn _ _); refine wpList_append _ rfl (.tmp 26) (.tmp 34) _ _ rfl _ (.slice (some ⟨_, 0, none⟩) 1 1) rfl rfl _ _ r ?_; clear r)
      go_roundw
      case rel => exact ⟨k + 1, by omega, by go_num, Lib.hid HE.out.1, HN, Lib.hid HE.out.2⟩
      case measure => simp [intOf]; omega
    · have hins : ins K.L x = K.L.take k ++ x :: K.L.drop k := ins_at hk (fun j h hj => hlow.out j h hj) (fun hl hlt' => hgo ⟨hl, hlt'⟩)
      have FIN : Hid (∀ sv, From K v k sv → ∀ W, Below wr.heap.size wr W → ∃ va wa, (Builtin.append_ #[26, 26] 26 #[u4, .slice (some ⟨W.heap.size, 0, none⟩) 1 1]).run Try.prog (W.alloc (.cells #[.string ⟨x.name.toArray⟩, .string ⟨x.sure.toArray⟩, .string ⟨x.loose.toArray⟩] 70)) = .ok va wa ∧ wa.cell? ⟨d, 0, none⟩ = some v ∧
          ∃ vb wb, (Builtin.append_ #[26, 26] 26 #[va, sv]).run Try.prog wa = .ok vb wb ∧ (∃ A n c, vb = .slice A n c) ∧ (∃ y, wb.cell? ⟨d, 0, none⟩ = some y) ∧ wb.frozen? ⟨d, 0, none⟩ = false ∧
            Hid ((∃ v', RLay (wb.setCell ⟨d, 0, none⟩ vb) B d { K with L := ins K.L x } v' q) ∧ Gone isDsk B w (wb.setCell ⟨d, 0, none⟩ vb))) := Lib.hid fun sv hsv W hW => by
        obtain ⟨va, wa, r1, ca, vb, wb, r2, fb, yb, zb, hh⟩ := put_end HH.out hbel.out (Nat.le_refl _) hsz1 hW hown.out hk x hins HOK.out hsv
        exact ⟨va, wa, r1, ca, vb, wb, r2, fb, yb, zb, Lib.hid ⟨hh.out.1, ((Gone.refl isDsk B w).below HB.out HA.out).trans hh.out.2⟩⟩
      clear hins hbel hlow hown htl
      have hrow := hr.row
      rcases hrow.2 with ⟨hv, hl0⟩ | ⟨g, c, cur, hv, _, _, hcap, _⟩
      · have hL : K.L = [] := List.length_eq_zero_iff.1 hl0
        obtain rfl : k = 0 := by omega
        have FI := Lib.hid (FIN.out (.slice none 0 0) (.inl ⟨hv, hL, rfl⟩))
        rw [hv] at c0 FI
        have hdec : decide ((0 : Int) < (0 : Int)) = false := rfl
        clear hr hrow FIN HH hgo hl0 hk
        rw [hL]
        go_wp2_with fail
        go_quiet (fail)
        go_wp2_with (first
          | (at_builtin; obtain ⟨va, wa, r1, ca, vb, wb, r2, ⟨A5, n5, c5, rfl⟩, ⟨y5, cb⟩, zb, HE⟩ := FI.out _ (below_dn _ _); have R1 := Lib.hid r1; have R2 := Lib.hid r2; clear r1 r2; refine wpList_append _ rfl (.tmp 38) (.tmp 40) _ _ rfl _ (.slice (some ⟨_, 0, none⟩) 1 1) rfl rfl _ _ R1.out ?_)
          | (at_builtin; refine wpList_append _ rfl (.tmp 42) (.tmp 48) _ _ rfl va (.slice none 0 0) rfl rfl _ _ R2.out ?_))
        go_end0
        exact ⟨rfl, HE.out⟩
      · rw [hv] at c0
        by_cases hlt : k < K.L.length
        · have hnl : ¬ K.L[k].name < x.name := fun e => hgo ⟨hlt, e⟩
          obtain ⟨g', c', hv', _, _, _, ⟨n0, n1, n2⟩, _⟩ := hr.at_ hlt
          rw [hv] at hv'
          cases hv'
          have hq : Op.bytesLess K.L[k].name x.name = false := by rw [bytesLess_eq]; exact decide_eq_false hnl
          have FI := Lib.hid (FIN.out (.slice (some ⟨g, k * 3, none⟩) (K.L.length - k) (c - k)) (.inr ⟨g, c, hv, .inr ⟨by omega, rfl⟩⟩))
          rw [hv] at FI
          have hck : ¬ c = k := by omega
          have hdec : decide ((k : Int) < (K.L.length : Int)) = true := decide_eq_true (by omega)
          have hlt' : (k : Int) < (K.L.length : Int) := by omega
          clear hr hrow FIN HH hgo hv hnl
          generalize K.L[k].name = nm at *
          go_wp2_with fail
          go_quiet (fail)
          go_wp2_with (first
            | (at_builtin; obtain ⟨va, wa, r1, ca, vb, wb, r2, ⟨A5, n5, c5, rfl⟩, ⟨y5, cb⟩, zb, HE⟩ := FI.out _ (below_dn _ _); have R1 := Lib.hid r1; have R2 := Lib.hid r2; clear r1 r2; refine wpList_append _ rfl (.tmp 38) (.tmp 40) _ _ rfl _ (.slice (some ⟨_, 0, none⟩) 1 1) rfl rfl _ _ R1.out ?_)
            | (at_builtin; refine wpList_append _ rfl (.tmp 42) (.tmp 48) _ _ rfl va (.slice (some ⟨g, k * 3, none⟩) (K.L.length - k) (c - k)) rfl rfl _ _ R2.out ?_))
          go_end0
          exact ⟨rfl, HE.out⟩

        · have hkl : K.L.length = k := by omega
          by_cases hck : c = k
          · have FI := Lib.hid (FIN.out (.slice (some ⟨g, 0, none⟩) 0 0) (.inr ⟨g, c, hv, .inl ⟨hck, rfl⟩⟩))
            rw [hv] at FI
            subst hck
            rw [hkl] at c0 FI
            have hdec : decide ((c : Int) < (c : Int)) = false := decide_eq_false (by omega)
            clear hr hrow FIN HH hgo hv hlt hkl hk hcap hfew
            go_wp2_with fail
            go_quiet (fail)
            go_wp2_with (first
              | (at_builtin; obtain ⟨va, wa, r1, ca, vb, wb, r2, ⟨A5, n5, c5, rfl⟩, ⟨y5, cb⟩, zb, HE⟩ := FI.out _ (below_dn _ _); have R1 := Lib.hid r1; have R2 := Lib.hid r2; clear r1 r2; refine wpList_append _ rfl (.tmp 38) (.tmp 40) _ _ rfl _ (.slice (some ⟨_, 0, none⟩) 1 1) rfl rfl _ _ R1.out ?_)
              | (at_builtin; refine wpList_append _ rfl (.tmp 42) (.tmp 48) _ _ rfl va (.slice (some ⟨g, 0, none⟩) 0 0) rfl rfl _ _ R2.out ?_))
            go_end0
            exact ⟨rfl, HE.out⟩

          · have FI := Lib.hid (FIN.out (.slice (some ⟨g, k * 3, none⟩) (K.L.length - k) (c - k)) (.inr ⟨g, c, hv, .inr ⟨hck, rfl⟩⟩))
            rw [hv] at FI
            rw [hkl] at c0 FI
            rw [Nat.sub_self] at FI
            have hdec : decide ((k : Int) < (k : Int)) = false := decide_eq_false (by omega)
            clear hr hrow FIN HH hgo hv hlt hkl hk hcap hfew
            go_wp2_with fail
            go_quiet (fail)
            go_wp2_with (first
              | (at_builtin; obtain ⟨va, wa, r1, ca, vb, wb, r2, ⟨A5, n5, c5, rfl⟩, ⟨y5, cb⟩, zb, HE⟩ := FI.out _ (below_dn _ _); have R1 := Lib.hid r1; have R2 := Lib.hid r2; clear r1 r2; refine wpList_append _ rfl (.tmp 38) (.tmp 40) _ _ rfl _ (.slice (some ⟨_, 0, none⟩) 1 1) rfl rfl _ _ R1.out ?_)
              | (at_builtin; refine wpList_append _ rfl (.tmp 42) (.tmp 48) _ _ rfl va (.slice (some ⟨g, k * 3, none⟩) 0 (c - k)) rfl rfl _ _ R2.out ?_))
            go_end0
            exact ⟨rfl, HE.out⟩

end Go.Proofs.Ytklgiocihknebaa
