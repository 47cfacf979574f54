/- Append to a file that is not there; Append as a whole. -/
import Derived.Test.YtpafialojcidnaaGreatDoorDkApp
namespace Go.Proofs.YtpafialojcidnaaGreatDoor
open Go.RowKit Go.Maps Dk
set_option linter.unusedVariables false

theorem upd_miss {L : List Fl} {s : Str} {g : Fl → Fl} (h : ∀ f ∈ L, f.name ≠ s) : upd L s g = L := by
  unfold upd
  conv => rhs; rw [← List.map_id L]
  exact List.map_congr_left fun f hf => if_neg (h f hf)
theorem upd_ins {L : List Fl} {x : Fl} {g : Fl → Fl} (hn : Dk.has L x.name = false) (hg : (g x).name = x.name) : upd (ins L x) x.name g = ins L (g x) := by
  induction L with
  | nil => simp [ins, upd]
  | cons a L ih =>
    rw [has_false] at hn
    have ha := hn a (List.mem_cons_self ..)
    have hL : ∀ f ∈ L, f.name ≠ x.name := fun f hf => hn f (List.mem_cons_of_mem _ hf)
    unfold ins
    rw [hg]
    split
    · have := ih (has_false.2 hL)
      unfold upd at this ⊢
      rw [List.map_cons, this, if_neg ha]
    · have h1 := upd_miss (g := g) hn
      unfold upd at h1 ⊢
      rw [List.map_cons, h1, if_pos rfl]

set_option maxHeartbeats 4000000 in
set_option maxRecDepth 100000 in
theorem append_new (w : World) {B d : Nat} {K : St} {φ : Str → Nat × Value} {mv : Value} (h : Lay w B d K φ mv) (hB : B ≤ w.heap.size) (s t : Str) (hs : s.length ≤ 140737488351232) (ht : t.length ≤ 140737488351232) (h6 : err K s = 6) :
    Calls Tryz.prog 26 #[.pointer (some ⟨d, 0, none⟩), .string ⟨s.toArray⟩, .string ⟨t.toArray⟩] w fun e w' => e = .returned (.int .i64 ((Dk.append K s t).2 : Nat)) ∧ DiskAt w' B d (Dk.append K s t).1 ∧ Gone isRef B w w' := by
  have O := open_any s w h (by omega)
  have F := fresh_any w h
  obtain ⟨hb, hd, hn⟩ := err_none h6
  rw [h6] at O
  have O := Lib.hid (show Calls Tryz.prog 49 #[.pointer (some ⟨d, 0, none⟩), .string ⟨s.toArray⟩] w fun e w' => e = .returned (.tuple #[.pointer none, .int .i64 6]) ∧ w = w' from O)
  by_cases h64 : 64 ≤ K.L.length
  · simp only [if_pos h64] at F
    have F := Lib.hid F
    rw [append_none hb hd (look_none.2 hn), if_pos (.inl h64)]
    have HL := Lib.hid (⟨φ, mv, h⟩ : DiskAt w B d K)
    have HG := Lib.hid (Gone.refl isRef B w)
    clear h hB hs ht h6 hb hd hn h64
    go_enter Tryz.func26, Tryz.ntmps26
    go_wp2_with (first
      | (go_at_call 49; refine O.out.mono ?_; rintro e w' ⟨rfl, rfl⟩)
      | (go_at_call 51; refine F.out.mono ?_; rintro e w' ⟨rfl, rfl⟩))
    go_ret
    exact ⟨rfl, HL.out, HG.out⟩
  · simp only [if_neg h64] at F
    have F := Lib.hid F
    have hnew := heap_alloc_new w (.cells #[.slice none 0 0, .int .i64 0] 70)
    have hal := bel1 w (.cells #[.slice none 0 0, .int .i64 0] 70)
    have hsz := size1 w (.cells #[.slice none 0 0, .int .i64 0] 70)
    have g1 := (Gone.refl isRef B w).below hB hal
    have h1 := h.below hal
    by_cases hbig : 4194304 < t.length
    · rw [append_none hb hd (look_none.2 hn), if_pos (.inr hbig)]
      have hbig' : (0 : Int) + (t.length : Int) > 4194304 := by omega
      obtain ⟨⟨f0, _⟩, _⟩ := box2 hnew
      have HL := Lib.hid (⟨φ, mv, h1⟩ : DiskAt _ B d K)
      have HG := Lib.hid g1
      clear h hB hs h6 hb hd hn h64 hnew hal h1 g1 hbig
      go_enter Tryz.func26, Tryz.ntmps26
      go_wp2_with (first
        | (go_at_call 49; refine O.out.mono ?_; rintro e w' ⟨rfl, rfl⟩)
        | (go_at_call 51; refine F.out.mono ?_; rintro e w' ⟨rfl, rfl⟩))
      go_ret
      exact ⟨rfl, HL.out, HG.out⟩
    · rw [append_none hb hd (look_none.2 hn), if_neg (by omega)]
      have hbig' : ¬ ((0 : Int) + (t.length : Int) > 4194304) := by omega
      obtain ⟨⟨f0, _⟩, _⟩ := box2 hnew
      have hok : Ok { K with L := ins K.L ⟨s, [], []⟩ } := by
        refine ⟨ins_sorted h.ok.sorted hn, fun f hf => ?_, h.ok.room, ?_, fun f hf => ?_⟩
        · rcases mem_ins.1 hf with rfl | hf
          · exact hb
          · exact h.ok.names f hf
        · show (ins K.L _).length ≤ 64
          rw [ins_len]; omega
        · rcases mem_ins.1 hf with rfl | hf
          · exact Nat.zero_le _
          · exact h.ok.small f hf
      have hfile : FileAt (w.alloc (.cells #[.slice none 0 0, .int .i64 0] 70)) B (w.heap.size, .slice none 0 0) ⟨s, [], []⟩ := ⟨hB, hnew, World.ownsRow_nil _ _ _ _⟩
      have hap : ∀ a ∈ K.L, ∀ b, Of (φ a.name) b → ¬ Of (w.heap.size, Value.slice none 0 0) b := fun a ha b hb hb' => by
        obtain ⟨_, cs, T, k2, _⟩ := (h.file a ha).of hb
        have := heap_lt k2
        rcases hb' with e | e
        · simp only at e; omega
        · simp [Value.ownBlock] at e
      have P := Lib.hid (put_more _ h1 (by rw [hsz]; omega) (f := ⟨s, [], []⟩) hn hok hfile hap)
      have LY : Hid (∀ (w' : World) (mv' : Value), Lay w' B d { K with L := ins K.L ⟨s, [], []⟩ } (up φ s (w.heap.size, .slice none 0 0)) mv' → B ≤ w'.heap.size →
          Calls Tryz.prog 52 #[.pointer (some ⟨d, 0, none⟩), .pointer (some ⟨w.heap.size, 0, none⟩), .string ⟨t.toArray⟩] w' fun e w'' =>
            e = .returned (.int .i64 ((if (pay K t).dead then 12 else 0 : Nat) : Int)) ∧ DiskAt w'' B d { pay K t with L := ins K.L ⟨s, [], fits K.room t⟩ } ∧ Gone isRef B w' w'') := Lib.hid fun w' mv' h' hB' => by
        have := lay_any w' h' hB' (f := ⟨s, [], []⟩) (mem_ins.2 (.inl rfl)) t (by show 0 + t.length ≤ _; omega) hd
        rw [up_same, upd_ins (x := ⟨s, [], []⟩) hn rfl] at this
        exact this
      generalize ({ pay K t with L := ins K.L ⟨s, [], fits K.room t⟩ } : St) = K2 at *
      generalize (if (pay K t).dead then 12 else 0 : Nat) = r at *
      have HB := Lib.hid hB
      have G1 := Lib.hid g1
      clear h hB hs h6 hb hn h64 hnew h1 g1 hbig hok hfile hap hd
      go_enter Tryz.func26, Tryz.ntmps26
      go_wp2_with (first
        | (go_at_call 49; refine O.out.mono ?_; rintro e w' ⟨rfl, rfl⟩)
        | (go_at_call 51; refine F.out.mono ?_; rintro e w' ⟨rfl, rfl⟩)
        | (go_at_call 38; refine P.out.mono ?_; rintro e w1 ⟨rfl, ⟨mv', hk1⟩, hk2⟩; have HK1 := Lib.hid hk1; have HK2 := Lib.hid (G1.out.trans hk2); clear hk1 hk2)
        | (go_at_call 52; refine (LY.out _ _ HK1.out (Nat.le_trans HB.out HK2.out.size)).mono ?_; rintro e w2 ⟨rfl, hj1, hj2⟩; have HJ1 := Lib.hid hj1; have HJ2 := Lib.hid hj2; clear hj1 hj2))
      go_ret
      exact ⟨rfl, HJ1.out, HK2.out.trans HJ2.out⟩

/-- Append. -/
theorem append_any (w : World) {B d : Nat} {K : St} (h : DiskAt w B d K) (hB : B ≤ w.heap.size) (s t : Str) (hs : s.length ≤ 140737488351232) (ht : t.length ≤ 140737488351232) :
    Calls Tryz.prog 26 #[.pointer (some ⟨d, 0, none⟩), .string ⟨s.toArray⟩, .string ⟨t.toArray⟩] w fun e w' => e = .returned (.int .i64 ((Dk.append K s t).2 : Nat)) ∧ DiskAt w' B d (Dk.append K s t).1 ∧ Gone isRef B w w' := by
  obtain ⟨φ, mv, h⟩ := h
  by_cases h0 : err K s = 0
  · exact append_old w h hB s t hs ht h0
  · by_cases h6 : err K s = 6
    · exact append_new w h hB s t hs ht h6
    · rw [append_err h0 h6]
      refine (append_bad w h s t hs ht h0 h6).mono ?_
      rintro e w' ⟨rfl, rfl⟩
      exact ⟨rfl, ⟨φ, mv, h⟩, Gone.refl _ _ _⟩
end Go.Proofs.YtpafialojcidnaaGreatDoor
