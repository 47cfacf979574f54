/- Truncate, Remove, Rename. -/
import Derived.Test.YtpafialojcidnaaGreatDoorDkOps2
namespace Go.Proofs.YtpafialojcidnaaGreatDoor
open Go.RowKit Go.Maps Dk
set_option linter.unusedVariables false

set_option maxHeartbeats 4000000 in
set_option maxRecDepth 100000 in
theorem trunc_any (w : World) {B d : Nat} {K : St} (h : DiskAt w B d K) (s : Str) (hs : s.length ≤ 140737488351232) (n : Int) (hn : -9223372036854775808 ≤ n ∧ n ≤ 9223372036854775807) :
    Calls Tryz.prog 25 #[.pointer (some ⟨d, 0, none⟩), .string ⟨s.toArray⟩, .int .i64 n] w fun e w' => e = .returned (.int .i64 ((Dk.trunc K s n).2 : Nat)) ∧ DiskAt w' B d (Dk.trunc K s n).1 ∧ Gone isRef B w w' ∧ Kp isFil w w' := by
  have h' := h
  obtain ⟨φ, mv, h⟩ := h
  by_cases h0 : err K s = 0
  · have O := open_any s w h (by omega)
    obtain ⟨hb, hd, f, hl, hf, rfl⟩ := err_look h0
    rw [h0, fp_yes] at O
    have O := Lib.hid O
    obtain ⟨⟨f0, f1⟩, _⟩ := box2 (h.file f hf).box
    obtain ⟨A, c, hform⟩ := row_form (h.file f hf).row
    have hsm := h.ok.small f hf
    have hs1 : (f.all.length : Int) ≤ 4194304 := by omega
    rw [hform] at f0
    by_cases hbad : n < 0 ∨ (f.all.length : Int) < n
    · have e1 : Dk.trunc K f.name n = (K, 5) := by simp [Dk.trunc, h0, hl, hbad]
      rw [e1]
      have HL := Lib.hid h'
      clear h h' hs h0 hl hf hform hsm e1 hb hd
      generalize (φ f.name).1 = fb at *
      generalize f.all.length = l at *
      by_cases hn0 : n < 0
      · clear hbad
        go_enter Tryz.func25, Tryz.ntmps25
        go_wp2_with (go_at_call 49; refine O.out.mono ?_; rintro e w' ⟨rfl, rfl⟩)
        go_ret
        exact ⟨rfl, HL.out, Gone.refl _ _ _, Kp.refl _ _⟩
      · have hgt : n > (l : Int) := by omega
        clear hbad
        go_enter Tryz.func25, Tryz.ntmps25
        go_wp2_with (go_at_call 49; refine O.out.mono ?_; rintro e w' ⟨rfl, rfl⟩)
        go_ret
        exact ⟨rfl, HL.out, Gone.refl _ _ _, Kp.refl _ _⟩
    · have e1 : Dk.trunc K f.name n = ({ K with L := upd K.L f.name (cutAt n.toNat) }, 0) := by simp only [Dk.trunc, h0, hl, Option.map_some, Option.getD_some]; rw [if_neg (by simp), if_neg hbad]
      rw [e1]
      have hn0 : ¬ n < 0 := by omega
      have hgt : ¬ n > (f.all.length : Int) := by omega
      have S := shorten_any w h hf n.toNat (by omega)
      rw [show ((n.toNat : Nat) : Int) = n by omega] at S
      have S := Lib.hid S
      have HX := Lib.hid (h.file f hf).box
      generalize ({ K with L := upd K.L f.name (cutAt n.toNat) } : St) = K2 at *
      clear h h' hs h0 hl hf hform hsm e1 hb hd hbad
      generalize hfb : (φ f.name).1 = fb at *
      generalize f.all.length = l at *
      go_enter Tryz.func25, Tryz.ntmps25
      go_wp2_with (first
        | (go_at_call 49; refine O.out.mono ?_; rintro e w' ⟨rfl, rfl⟩)
        | (go_at_call 50; refine S.out.mono ?_; rintro e w1 ⟨rfl, ⟨φ', hk1, _⟩, hk2, hk3⟩; have HK1 : Hid (DiskAt w1 B d K2) := Lib.hid ⟨_, _, hk1⟩; have HK2 := Lib.hid hk2; have HK3 := Lib.hid hk3; clear hk1 hk2 hk3))
      go_ret
      exact ⟨rfl, HK1.out, HK2.out, fun b o hb ho => (HK3.out b fun e => by rw [e, HX.out] at hb; cases hb; cases ho).trans hb⟩
  · have e1 : Dk.trunc K s n = (K, err K s) := by simp [Dk.trunc, h0]
    rw [e1]
    obtain ⟨n', hn', hn0, fv, hO⟩ := open_bad h s hs h0
    rw [← hn']
    have O := Lib.hid hO
    have HL := Lib.hid h'
    clear hO h h' hn' h0 hs e1
    go_enter Tryz.func25, Tryz.ntmps25
    go_wp2_with (go_at_call 49; refine O.out.mono ?_; rintro e w' ⟨rfl, rfl⟩)
    go_ret
    exact ⟨rfl, HL.out, Gone.refl _ _ _, Kp.refl _ _⟩

/-! ### a file taken out of the map -/
theorem Lay.drop {w : World} {B d m : Nat} {K : St} {φ : Str → Nat × Value} (h : Lay w B d K φ (.map (some m))) (s : Str) (hs : s.length ≤ 9223372036854775807) (ty : TypeId) :
    ∃ w', (Builtin.delete_ #[63, 9] ty #[.map (some m), .string ⟨s.toArray⟩]).run Tryz.prog w = .ok (.tuple #[]) w' ∧ Lay w' B d { K with L := del K.L s } φ (.map (some m)) ∧ Gone isRef B w w' ∧ ∀ b, b < w.heap.size → b ≠ m → w'.heap[b]? = w.heap[b]? := by
  have hm := h.map
  rcases hm with ⟨hm, _⟩ | ⟨m', D, h0, h1, h2, h3, h4, h5⟩
  · cases hm
  · cases h0
    have hk := key_str s hs
    have ht := h2.tidy strKey
    obtain ⟨w', hrun, hown, hturn⟩ := h2.drop strKey Tryz.underlying63 hk ty
    have hgr := hturn.grown
    obtain ⟨es, c, hmo⟩ := own_heap h2
    have hsz : Maps.size (D.del (.string s)) = (del K.L s).length := by
      have k1 := size_del (k := .string s) ht
      rw [h4, h3] at k1
      cases hh : Dk.has K.L s with
      | true => have := del_len h.ok.sorted hh; rw [hh] at k1; simp at k1; omega
      | false => rw [del_miss (has_false.1 hh)]; rw [hh] at k1; simpa using k1
    have hdd : ∀ b, b < w.heap.size → b ≠ m → w'.heap[b]? = w.heap[b]? := fun b hb hne => hgr.block b hb (fun e => hne (Option.some.inj e))
    refine ⟨w', hrun, h.less s (ok_del h.ok s) (fun b hb hne => hgr.block b hb (fun e => hne (by rw [Option.some.inj e]))) (.inr ⟨m, _, rfl, h1, own_tight hown, hsz, fun t => ?_, fun a ha => ?_⟩),
      (Gone.refl _ _ _).grown hgr (Nat.le_trans h1 (Nat.le_of_lt (heap_lt hmo))) (fun k hk => by cases hk; exact h1) (fun k o hk ho => by cases hk; rw [hmo] at ho; cases ho; rfl), hdd⟩
    · rw [del_has]
      by_cases hts : t = s
      · rw [hts, has_del_same]; simp
      · rw [has_del_other (fun e => hts (by injection e)), h4]; simp [hts]
    · obtain ⟨ha1, ha2⟩ := mem_del.1 ha
      rw [atKey_del_other (fun e => ha2 (by injection e))]
      exact h5 a ha1
theorem Lay.mapped {w : World} {B d : Nat} {K : St} {φ : Str → Nat × Value} {mv : Value} (h : Lay w B d K φ mv) {f : Fl} (hf : f ∈ K.L) : ∃ m, mv = .map (some m) := by
  rcases h.map with ⟨_, hL⟩ | ⟨m, D, hm, _⟩
  · rw [hL] at hf; cases hf
  · exact ⟨m, hm⟩
/-- delete, as an operation -/
theorem wpList_delete {P : Program} (w : World) {ops : Array Oper} {rest : List Oper} {o : Oper} {a : Act} {Q : Exit → Act → World → Prop} (hg : o.guard = none) (m x : Operand) (t k : TypeId) (hop : o.op = Op.call { callee := Callee.builtin Builtin.delete, args := #[m, x], argTypes := #[t, k] })
    (mv xv : Value) (hm : a.eval m = mv) (hx : a.eval x = xv) (w' : World) (hrun : (Builtin.delete_ #[t, k] o.type #[mv, xv]).run P w = .ok (.tuple #[]) w') (hK : wpList P ops Q rest (a.put o.dst (.tuple #[])) w') :
    wpList P ops Q (o :: rest) a w := by
  refine wpList_plain hg fun K' hK' => ?_
  unfold Oper.wp
  simp [execOp, hop, resolve, invoke, builtin, hm, hx, hrun, Result.andThen]
  exact hK' _ _ hK

set_option maxHeartbeats 4000000 in
set_option maxRecDepth 100000 in
theorem remove_any (w : World) {B d : Nat} {K : St} (h : DiskAt w B d K) (s : Str) (hs : s.length ≤ 140737488351232) :
    Calls Tryz.prog 42 #[.pointer (some ⟨d, 0, none⟩), .string ⟨s.toArray⟩] w fun e w' => e = .returned (.int .i64 ((Dk.remove K s).2 : Nat)) ∧ DiskAt w' B d (Dk.remove K s).1 ∧ Gone isRef B w w' ∧ Onl d w w' := by
  have h' := h
  obtain ⟨φ, mv, h⟩ := h
  unfold Dk.remove
  by_cases h0 : err K s = 0
  · have O := open_any s w h (by omega)
    simp only [if_pos h0]
    obtain ⟨hb, hd, f, hl, hf, hnm⟩ := err_look h0
    rw [h0, fp_yes] at O
    rw [h0]
    have O := Lib.hid O
    obtain ⟨m, rfl⟩ := h.mapped hf
    obtain ⟨⟨c0, _, _, _⟩, _⟩ := box4 h.box
    obtain ⟨w1, hrun, hL, hG, hdd⟩ := h.drop s (by omega) 0
    have HD : Hid (Onl d w w1) := Lib.hid fun b hb hne => hdd b hb fun e => hne (by rw [e]; exact c0)
    have HL : Hid (DiskAt w1 B d { K with L := del K.L s }) := Lib.hid ⟨_, _, hL⟩
    have HG := Lib.hid hG
    have HR := Lib.hid hrun
    clear h h' hs h0 hl hf hL hG hb hd hrun hnm hdd
    generalize (φ s).1 = fb at *
    go_enter Tryz.func42, Tryz.ntmps42
    go_wp2_with (first
      | (go_at_call 49; refine O.out.mono ?_; rintro e w' ⟨rfl, rfl⟩)
      | (at_delete; refine wpList_delete _ rfl _ _ 63 9 rfl _ _ rfl rfl w1 HR.out ?_))
    go_ret
    exact ⟨rfl, HL.out, HG.out, HD.out⟩
  · simp only [if_neg h0]
    obtain ⟨n, hn, hn0, fv, hO⟩ := open_bad h s hs h0
    rw [← hn]
    have O := Lib.hid hO
    have HL := Lib.hid h'
    clear hO h h' hn h0 hs
    go_enter Tryz.func42, Tryz.ntmps42
    go_wp2_with (go_at_call 49; refine O.out.mono ?_; rintro e w' ⟨rfl, rfl⟩)
    go_ret
    exact ⟨rfl, HL.out, Gone.refl _ _ _, fun _ _ _ => rfl⟩

theorem rename_ok {K : St} {s t : Str} {f : Fl} (h0 : err K s = 0) (hl : Dk.look K.L s = some f) (hb : bad t = false) (ht : Dk.has K.L t = false) : Dk.rename K s t = ({ K with L := ins (del K.L s) { f with name := t } }, 0) := by
  simp [Dk.rename, h0, hb, ht, hl]

end Go.Proofs.YtpafialojcidnaaGreatDoor
