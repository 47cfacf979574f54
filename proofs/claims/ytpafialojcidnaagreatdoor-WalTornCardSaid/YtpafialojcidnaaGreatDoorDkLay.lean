/- put upon a disk; lay. -/
import Derived.Test.YtpafialojcidnaaGreatDoorDkPut
import Derived.Lib.AppendStr
namespace Go.Proofs.YtpafialojcidnaaGreatDoor
open Go.RowKit Go.Maps Dk
set_option linter.unusedVariables false

theorem isRef_d (cs : Array Value) : isRef (.cells cs 65 (0, 0)) = false := rfl
theorem isRef_f (cs : Array Value) : isRef (.cells cs 70 (0, 0)) = false := rfl
theorem isRef_b (cs : Array Value) : isRef (.cells cs 5 (0, 0)) = false := rfl

theorem put_more (w : World) {B d : Nat} {K : St} {φ : Str → Nat × Value} {mv : Value} (h : Lay w B d K φ mv) (hB : B ≤ w.heap.size) {f : Fl} (hn : Dk.has K.L f.name = false) (hok : Ok { K with L := ins K.L f }) {x : Nat × Value} (hx : FileAt w B x f)
    (hap : ∀ a ∈ K.L, ∀ b, Of (φ a.name) b → ¬ Of x b) :
    Calls Tryz.prog 38 #[.pointer (some ⟨d, 0, none⟩), .string ⟨f.name.toArray⟩, .pointer (some ⟨x.1, 0, none⟩)] w fun e w' => e = .returned (.tuple #[]) ∧ (∃ mv', Lay w' B d { K with L := ins K.L f } (up φ f.name x) mv') ∧ Gone isRef B w w' := by
  have hs : f.name.length ≤ 140737488351232 := by
    have := hok.names f (mem_ins.2 (.inl rfl))
    have := (bad_iff.1 this).2
    omega
  have hp := puts_more (φ := φ) (y := x) hn
  have kept : ∀ {w' : World} {row : Nat}, w.grownBy w' (some row) → (∀ b, Of x b → b ≠ row) → FileAt w' B x f := fun hg hne => hx.kept fun b hb => by
    obtain ⟨_, cs, T, h2, _⟩ := hx.of hb
    exact hg.block b (heap_lt h2) (fun e => hne b hb (Option.some.inj e))
  rcases h.map with ⟨rfl, hL⟩ | ⟨m, D, hm, h1, h2, h3, h4, h5⟩
  · have hp' : Puts [] (ins K.L f) φ (up φ f.name x) f.name x.1 := by rw [← hL]; exact hp
    refine (put_nil w h.box hB hs hp').mono ?_
    rintro e w' ⟨rfl, k1, k2, k3⟩
    have hxd : ∀ b, Of x b → b ≠ d := fun b hb => by
      obtain ⟨_, cs, T, h2, h3⟩ := hx.of hb
      exact ne_heap h2 h.box (by rcases h3 with rfl | rfl <;> (intro e; injection e with _ e2; cases e2))
    exact ⟨rfl, ⟨_, h.more hn (kept k3 hxd) hap (fun b hb hd _ => k3.block b hb (fun e => hd (Option.some.inj e))) hok k2 k1⟩,
      (Gone.refl _ _ _).grown k3 hB (fun k hk => by cases hk; exact h.base) (fun k o hk ho => by cases hk; rw [h.box] at ho; cases ho; rfl)⟩
  · subst hm
    refine (put_at w h.box h.map hs h.ok.few hp).mono ?_
    rintro e w' ⟨rfl, k1, k3⟩
    obtain ⟨hBm, es, c, hmo⟩ := h.map.block
    have hxm : ∀ b, Of x b → b ≠ m := fun b hb => by
      obtain ⟨_, cs, T, h2, h3⟩ := hx.of hb
      exact ne_heap h2 hmo (fun e => by cases e)
    exact ⟨rfl, ⟨_, h.more hn (kept k3 hxm) hap (fun b hb _ hm => k3.block b hb (fun e => hm (by rw [Option.some.inj e]))) hok ((k3.block d h.lt (fun e => h.d_m rfl (Option.some.inj e).symm)).trans h.box) k1⟩,
      (Gone.refl _ _ _).grown k3 hB (fun k hk => by cases hk; exact hBm) (fun k o hk ho => by cases hk; rw [hmo] at ho; cases ho; rfl)⟩

theorem put_again (w : World) {B d : Nat} {K : St} {φ : Str → Nat × Value} {mv : Value} (h : Lay w B d K φ mv) (hB : B ≤ w.heap.size) {f : Fl} (hf : f ∈ K.L) :
    Calls Tryz.prog 38 #[.pointer (some ⟨d, 0, none⟩), .string ⟨f.name.toArray⟩, .pointer (some ⟨(φ f.name).1, 0, none⟩)] w fun e w' => e = .returned (.tuple #[]) ∧ Lay w' B d K φ mv ∧ Gone isRef B w w' := by
  have hs : f.name.length ≤ 140737488351232 := by
    have := h.ok.names f hf
    have := (bad_iff.1 this).2
    omega
  have hp := puts_same (φ := φ) (has_mem hf)
  rcases h.map with ⟨rfl, hL⟩ | ⟨m, D, hm, h1, h2, h3, h4, h5⟩
  · rw [hL] at hf; cases hf
  · subst hm
    refine (put_at w h.box h.map hs h.ok.few hp).mono ?_
    rintro e w' ⟨rfl, k1, k3⟩
    obtain ⟨hBm, es, c, hmo⟩ := h.map.block
    refine ⟨rfl, ⟨h.ok, h.base, (k3.block d h.lt (fun e => h.d_m rfl (Option.some.inj e).symm)).trans h.box, k1, fun a ha => (h.file a ha).kept fun b hb => k3.block b ?_ (fun e => h.file_m ha hb rfl (Option.some.inj e)), h.apart⟩,
      (Gone.refl _ _ _).grown k3 hB (fun k hk => by cases hk; exact hBm) (fun k o hk ho => by cases hk; rw [hmo] at ho; cases ho; rfl)⟩
    obtain ⟨_, cs, T, h2, _⟩ := (h.file a ha).of hb
    exact heap_lt h2

/-! ### bytes behind a file's -/
theorem info8 : (Tryz.prog.info? 5).map (fun i => (i.zero, i.size, i.bytes)) = some (some (.int .u8 0), 1, 1) := by kernel_rfl
theorem append_at (w : World) {B n : Nat} {v : Value} {xs : List Value} (h : w.ownsRow B 5 1 v n xs) (s : Str) (hn : n + s.length ≤ 140737488355328) (hB : B ≤ w.heap.size) (ty : TypeId) :
    ∃ v' w', (Builtin.append_ #[48, 9] ty #[v, .string ⟨s.toArray⟩]).run Tryz.prog w = .ok v' w' ∧ w'.ownsRow B 5 1 v' (n + s.length) (xs ++ Lib.byteCells s) ∧ w.grownBy w' v.ownBlock ∧ ∀ b, v'.ownBlock = some b → v.ownBlock = some b ∨ w.heap.size ≤ b := by
  obtain ⟨i, hi, hz, h1, h2⟩ := info_parts info8
  have hss : (ByteArray.mk s.toArray).size = s.length := by show s.toArray.size = _; rw [List.size_toArray]
  have cells : Lib.strCells ⟨s.toArray⟩ = Lib.byteCells s := by rw [Lib.strCells_eq]
  have hmax : n + s.length ≤ maxLen := by show _ ≤ 9223372036854775807; omega
  obtain ⟨v', w', hr, ho, hg, _⟩ := Lib.run_append_own_string (P := Tryz.prog) w B 48 9 ty 5 i Tryz.underlying48 Tryz.underlying9 hi hz h1 h2 v n xs h ⟨s.toArray⟩ (by rw [hss]; exact hmax) (by rw [hss]; exact hn) hB
  rw [hss, cells] at ho
  refine ⟨v', w', hr, ho, hg, fun b hb => ?_⟩
  rcases h.2 with ⟨rfl, rfl⟩ | ⟨g, cap, cur, rfl, hbg, hgg, hnc, hcm, hcs, htake⟩
  · obtain ⟨v2, w2, hr2, ho2, _, _⟩ := Lib.run_append_own_string (P := Tryz.prog) w w.heap.size 48 9 ty 5 i Tryz.underlying48 Tryz.underlying9 hi hz h1 h2 (.slice none 0 0) 0 [] (World.ownsRow_nil _ _ _ _) ⟨s.toArray⟩ (by rw [hss]; exact hmax) (by rw [hss]; exact hn) (Nat.le_refl _)
    rw [hr] at hr2
    cases hr2
    exact .inr (ho2.lt b hb).1
  · by_cases hroom : n + s.length ≤ cap
    · have hr2 := Lib.run_append_room_string (P := Tryz.prog) w 48 9 ty 5 i Tryz.underlying48 Tryz.underlying9 hi h1 g n cap cur hgg ⟨s.toArray⟩ (by rw [hss]; exact hroom) (by rw [hss, hcs, Nat.mul_one]; exact hroom)
      rw [hr] at hr2
      injection hr2 with e1 e2
      rw [e1] at hb
      exact .inl hb
    · have hr2 := Lib.run_append_grow_string (P := Tryz.prog) w 48 9 ty 5 i (.int .u8 0) Tryz.underlying48 Tryz.underlying9 hi hz ⟨g, 0, none⟩ n cap xs (by rw [h1]; exact h.1) (h.cells (g := g) rfl) ⟨s.toArray⟩ (by rw [hss]; omega) (by rw [hss]; omega)
        (by rw [h2]; exact growslice_fits (by rw [hss]; omega) (by rw [hss]; omega))
      rw [hr] at hr2
      injection hr2 with e1 e2
      rw [e1] at hb
      simp only [Value.ownBlock, Option.some.injEq] at hb
      exact .inr (by omega)
/-- more bytes behind a file's, and its struct told of them -/
theorem row_form {w : World} {B n : Nat} {e : TypeId} {v : Value} {xs : List Value} (h : w.ownsRow B e 1 v n xs) : ∃ A c, v = .slice A n c := by
  rcases h.2 with ⟨rfl, rfl⟩ | ⟨g, cap, cur, rfl, _⟩
  · exact ⟨none, 0, rfl⟩
  · exact ⟨_, _, rfl⟩
theorem Lay.longer {w : World} {B d : Nat} {K : St} {φ : Str → Nat × Value} {mv : Value} (h : Lay w B d K φ mv) (hB : B ≤ w.heap.size) {f : Fl} (hf : f ∈ K.L) (u : Str) (hu : f.all.length + u.length ≤ 4194304) :
    ∃ v' w' A n c, v' = .slice A n c ∧ (Builtin.append_ #[48, 9] 48 #[(φ f.name).2, .string ⟨u.toArray⟩]).run Tryz.prog w.drew = .ok v' w' ∧
      Lay (w'.setCell ⟨(φ f.name).1, 0, none⟩ v') B d { K with L := upd K.L f.name fun f => { f with loose := f.loose ++ u } } (up φ f.name ((φ f.name).1, v')) mv ∧ Gone isRef B w (w'.setCell ⟨(φ f.name).1, 0, none⟩ v') ∧ w'.frozen? ⟨(φ f.name).1, 0, none⟩ = false ∧ (w'.cell? ⟨(φ f.name).1, 0, none⟩).isSome = true ∧ w'.heap[d]? = w.heap[d]? := by
  have F := h.file f hf
  obtain ⟨v', w', hr, ho, hg, hl⟩ := append_at w.drew F.row.drew u (by omega) hB 48
  have hne : (φ f.name).2.ownBlock ≠ some (φ f.name).1 := fun e => by
    obtain ⟨_, cs, h2⟩ := row_block F.row e
    exact ne_heap h2 F.box (by intro e; injection e with _ e2; cases e2) rfl
  have box' : w'.heap[(φ f.name).1]? = some (.cells #[(φ f.name).2, .int .i64 (f.sure.length : Int)] 70 (0, 0)) := (hg.block _ (heap_lt (W := w) F.box) (fun e => hne e.symm)).trans F.box
  have hv' : ∀ b, v'.ownBlock = some b → b ≠ (φ f.name).1 := fun b hb => by
    obtain ⟨_, cs, h2⟩ := row_block ho hb
    exact ne_heap h2 box' (by intro e; injection e with _ e2; cases e2)
  have e1 : ({ f with loose := f.loose ++ u } : Fl).all = f.all ++ u := by simp [Fl.all]
  obtain ⟨A, c, hform⟩ := row_form ho
  refine ⟨v', w', A, _, c, hform, hr, h.filed hf (g := fun f => { f with loose := f.loose ++ u }) (fun a e => e) (x := ((φ f.name).1, v')) rfl ⟨F.base, ?_, ?_⟩ (fun b hb => hl b hb) (fun b hb hof => ?_) ⟨upd_sorted h.ok.sorted (fun _ e => e), fun a ha => ?_, h.ok.room, ?_, fun a ha => ?_⟩, ?_, ?_, ?_, ?_⟩
  · have := heap_setCell_same w' (φ f.name).1 0 _ _ v' box'
    exact this
  · rw [e1, List.length_append, Lib.byteCells_append]
    refine row_kept ho fun b hb => Below.heap_setCell _ _ _ _ (hv' b hb)
  · exact (Below.heap_setCell _ _ _ _ (fun e => hof (.inl e))).trans (hg.block b hb (fun e => hof (.inr e.symm)))
  · rcases mem_upd.1 ha with ⟨ha, _⟩ | ⟨a0, ha0, _, rfl⟩
    · exact h.ok.names a ha
    · exact h.ok.names a0 ha0
  · show (upd K.L _ _).length ≤ 64
    rw [upd_len]; exact h.ok.few
  · rcases mem_upd.1 ha with ⟨ha, _⟩ | ⟨a0, ha0, hn, rfl⟩
    · exact h.ok.small a ha
    · obtain rfl := sorted_inj h.ok.sorted ha0 hf hn
      rw [e1, List.length_append]; exact hu
  · have g1 : Gone isRef B w w' := ⟨(Below.refl B w).grown (w := w) ⟨hg.os, hg.tape, hg.output, hg.size, hg.block⟩ hB (fun k hk => (row_block F.row hk).1), Kp.grown (W := w) ⟨hg.os, hg.tape, hg.output, hg.size, hg.block⟩ (fun k o hk ho => by
      obtain ⟨_, cs, h2⟩ := row_block F.row hk
      rw [h2] at ho; cases ho; rfl)⟩
    exact g1.set box' (isRef_f _) F.base v'
  · simp [World.frozen?, box']
  · simp [World.cell?, box']
  · exact hg.block d h.lt (fun e => h.file_d hf (b := d) (.inr e.symm) rfl)
end Go.Proofs.YtpafialojcidnaaGreatDoor
