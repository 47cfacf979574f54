/- DiskAsks. -/
import Derived.Test.YtklgiocihknebaaDkStep
namespace Go.Proofs.Ytklgiocihknebaa
open Go.RowKit Go.Maps Dk
set_option linter.unusedVariables false
/-- the document's disk, new -/
theorem ref_new (W : World) {B : Nat} (hB : B ≤ W.heap.size) : RefAt (W.alloc (.cells #[.slice none 0 0, .bool false, .int .i64 0, .bool false] 28)) B W.heap.size Dk.new :=
  ⟨.slice none 0 0, 0, ok_new, hB, heap_alloc_new W _, (fun n e => by cases e), ownf_nil _ _⟩
theorem dcells_at {D : List DD} {k : Nat} (hk : k < D.length) (j : Nat) (hj : j < 5) : (dcells D)[k * 5 + j]? = D[k].row[j]? := by
  have hs : dcells D = dcells (D.take k) ++ (D[k].row ++ dcells (D.drop (k + 1))) := by
    conv => lhs; rw [← List.take_append_drop k D, List.drop_eq_getElem_cons hk]
    unfold dcells
    rw [List.flatMap_append, List.flatMap_cons]
  have hl : (dcells (D.take k)).length = k * 5 := by rw [dcells_len, List.length_take]; congr 1; omega
  rw [hs, List.getElem?_append_right (by rw [hl]; omega), hl, show k * 5 + j - k * 5 = j by omega, List.getElem?_append_left (by show j < 5; exact hj)]
theorem ownd_at {W : World} {B n c : Nat} {A : Option Addr} {D : List DD} (h : OwnD W B (.slice A n c) D) {k : Nat} (hk : k < D.length) :
    ∃ g, A = some ⟨g, 0, none⟩ ∧ W.cell? ⟨g, k * 5, none⟩ = some (.int .i64 D[k].kind) ∧ W.cell? ⟨g, k * 5 + 1, none⟩ = some (.int .i64 D[k].n) ∧ W.cell? ⟨g, k * 5 + 2, none⟩ = some (.string ⟨D[k].name.toArray⟩) ∧
      W.cell? ⟨g, k * 5 + 3, none⟩ = some (.string ⟨D[k].to.toArray⟩) ∧ W.cell? ⟨g, k * 5 + 4, none⟩ = some (.string ⟨D[k].s.toArray⟩) := by
  have h2 := h.2
  rcases h2 with ⟨_, e'⟩ | ⟨g, cap, cur, e, _⟩
  · omega
  · cases e
    have cc : ∀ j u, (dcells D)[j]? = some u → W.cell? ⟨g, j, none⟩ = some u := fun j u hj => by
      have := h.cells (g := g) rfl j u hj
      rwa [Go.WideShapes.add_plain, Nat.zero_add] at this
    exact ⟨g, rfl, cc _ _ (dcells_at hk 0 (by omega)), cc _ _ (dcells_at hk 1 (by omega)), cc _ _ (dcells_at hk 2 (by omega)), cc _ _ (dcells_at hk 3 (by omega)), cc _ _ (dcells_at hk 4 (by omega))⟩
section
variable {w W : World} {B d r n a b : Nat} {K L : St} {s t : Str}
theorem p_read (h : P2 w B d r K L W) (e : Dk.read K s = (t, n)) (hs : s.length ≤ 140737488351232) :
    Calls Try.prog 17 #[.pointer (some ⟨d, 0, none⟩), .string ⟨s.toArray⟩] W fun e w' => e = .returned (.tuple #[.string ⟨t.toArray⟩, .int .i64 (n : Int)]) ∧ P2 w B d r K L w' :=
  (read_any W h.out.1 s hs).mono fun e' w' ⟨h1, h2⟩ => by rw [e] at h1; subst h2; exact ⟨h1, h⟩
theorem q_read (h : P2 w B d r K L W) (e : Dk.read L s = (t, n)) (hs : s.length ≤ 140737488351232) :
    Calls Try.prog 18 #[.pointer (some ⟨r, 0, none⟩), .string ⟨s.toArray⟩] W fun e w' => e = .returned (.tuple #[.string ⟨t.toArray⟩, .int .i64 (n : Int)]) ∧ P2 w B d r K L w' :=
  (rread_any W h.out.2.1 s hs).mono fun e' w' ⟨h1, h2⟩ => by rw [e] at h1; exact ⟨h1, h.below h2⟩
theorem p_size (h : P2 w B d r K L W) (e : Dk.size K s = (a, b, n)) (hs : s.length ≤ 140737488351232) :
    Calls Try.prog 19 #[.pointer (some ⟨d, 0, none⟩), .string ⟨s.toArray⟩] W fun e w' => e = .returned (.tuple #[.int .i64 (a : Int), .int .i64 (b : Int), .int .i64 (n : Int)]) ∧ P2 w B d r K L w' :=
  (size_any W h.out.1 s hs).mono fun e' w' ⟨h1, h2⟩ => by rw [e] at h1; exact ⟨h1, h.below h2⟩
theorem q_size (h : P2 w B d r K L W) (e : Dk.size L s = (a, b, n)) (hs : s.length ≤ 140737488351232) :
    Calls Try.prog 20 #[.pointer (some ⟨r, 0, none⟩), .string ⟨s.toArray⟩] W fun e w' => e = .returned (.tuple #[.int .i64 (a : Int), .int .i64 (b : Int), .int .i64 (n : Int)]) ∧ P2 w B d r K L w' :=
  (rsize_any W h.out.2.1 s hs).mono fun e' w' ⟨h1, h2⟩ => by rw [e] at h1; exact ⟨h1, h.below h2⟩
end
set_option maxHeartbeats 8000000 in
set_option maxRecDepth 100000 in
theorem law_asks (w : World) (A : Option Addr) (cap : Nat) (l : List DD) (hl : l.length ≤ cap) (hc : cap ≤ 140737488351232) (hf : ∀ x ∈ l, x.Fine) (R : ReadsK w w.heap.size A 5 (l.map DD.row)) (s : Str) (hs : s.length ≤ 140737488351232) :
    Calls Try.prog 4 #[.slice A l.length cap, .string ⟨s.toArray⟩] w fun e w' => e = .returned (.bool true) ∧ Below w.heap.size w w' := by
  have N := Lib.hid (new_at w w rfl)
  have FEW : Hid (∀ w3, Below w.heap.size w w3 → Calls Try.prog 13 #[.slice A l.length cap] w3 fun e w' => (∃ v, e = .returned v ∧ ∃ D, Few D ∧ OwnD w' w3.heap.size v D) ∧ Below w3.heap.size w3 w') :=
    Lib.hid fun w3 h => few_any w3 A cap l hl hc hf h.size (R.below h)
  clear R hf
  go_enter Try.func4, Try.ntmps4
  go_wp2_with (first
    | (go_at_call 12; refine N.out.mono ?_; rintro e w2 ⟨d, rfl, H0⟩; have B3 := Lib.hid (H0.bel.alloc H0.size (.cells #[.slice none 0 0, .bool false, .int .i64 0, .bool false] 28)); have RN := Lib.hid (ref_new w2 H0.size); have D3 := Lib.hid (H0.out.1.below ((Below.refl _ _).alloc (Nat.le_refl _) (.cells #[.slice none 0 0, .bool false, .int .i64 0, .bool false] 28))))
    | (go_at_call 13; refine (FEW.out _ B3.out).mono ?_; rintro e w4 ⟨⟨v, rfl, D, hFw, hO⟩, hb⟩; obtain ⟨A', c', rfl⟩ := ownd_form hO; have FW := Lib.hid hFw; have OD := Lib.hid hO; have PP := P2.start (D3.out.below hb) (RN.out.below hb) (Nat.le_trans B3.out.size hb.size); have BB := Lib.hid (B3.out.trans (hb.mono B3.out.size)); have hD60 := hFw.1; clear hFw hO hb B3 RN D3 H0))
  generalize hr2 : w2.heap.size = r at *
  clear N FEW
  go_loopw [7] (fun i wr => ∃ (k : Nat) (K : St), k ≤ D.length ∧ i = .int .i64 k ∧ P2 w4 w.heap.size d r K K wr) (fun i _ => D.length - (intOf i).toNat)
  case atStart => exact ⟨0, Dk.new, Nat.zero_le _, rfl, PP⟩
  case round =>
    obtain ⟨k, K, hk, rfl, hp⟩ := hrel
    clear PP
    by_cases hlt : k < D.length
    · have hlt' : (k : Int) < (D.length : Int) := by omega
      obtain ⟨g, rfl, c0, c1, c2, c3, c4⟩ := ownd_at (ownd_kp OD.out (p := isBoth) (fun _ => rfl) hp.out.2.2.2.kp) hlt
      have hx := (FW.out.2 _ (List.getElem_mem hlt)).1
      have HX := Lib.hid hx
      clear hx
      generalize D[k] = x at *
      go_wp2_with (go_at_call 14; refine (step_any hp x HX.out).mono ?_; rintro e w5 ⟨rfl, hp2⟩)
      go_roundw
      case rel => exact ⟨k + 1, _, by omega, by go_num, hp2⟩
      case measure => simp [intOf]; omega
    · have hlt' : ¬ (k : Int) < (D.length : Int) := by omega
      obtain ⟨t, c, e1⟩ : ∃ t c, Dk.read K s = (t, c) := ⟨_, _, rfl⟩
      obtain ⟨a, b, c', e2⟩ : ∃ a b c', Dk.size K s = (a, b, c') := ⟨_, _, _, rfl⟩
      have E1 := Lib.hid e1
      have E2 := Lib.hid e2
      clear e1 e2 OD FW
      go_wp2_with (first
        | (go_at_call 17; refine (p_read hp E1.out hs).mono ?_; rintro e w6 ⟨rfl, G1⟩)
        | (go_at_call 18; refine (q_read G1 E1.out hs).mono ?_; rintro e w7 ⟨rfl, G2⟩)
        | (go_at_call 19; refine (p_size G2 E2.out hs).mono ?_; rintro e w8 ⟨rfl, G3⟩)
        | (go_at_call 20; refine (q_size G3 E2.out hs).mono ?_; rintro e w9 ⟨rfl, G4⟩)
        | (go_at_call 16; refine (awake_any _).mono ?_; rintro e w10 ⟨rfl, hb4⟩; have HB4 := Lib.hid hb4; clear hb4))
      go_ret
      exact ⟨rfl, BB.out.trans (G4.bel.trans (HB4.out.mono G4.size))⟩
end Go.Proofs.Ytklgiocihknebaa
