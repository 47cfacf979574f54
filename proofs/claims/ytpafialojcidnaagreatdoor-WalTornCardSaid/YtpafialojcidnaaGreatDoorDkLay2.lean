/- lay: as much as is taken, behind a file's bytes. -/
import Derived.Test.YtpafialojcidnaaGreatDoorDkLay
import Derived.Deep.RegionLaw
namespace Go.Proofs.YtpafialojcidnaaGreatDoor
open Go.RowKit Go.Maps Dk
set_option linter.unusedVariables false

theorem step_append {P : Program} {ops : Array Oper} {o : Oper} {a : Act} {w : World} {K : Act → World → Prop} {Q : Exit → Act → World → Prop} {E : Prop}
    (hg : o.guard = none) (s x : Operand) (t t' : TypeId) (hop : o.op = Op.call { callee := Callee.builtin Builtin.append, args := #[s, x], argTypes := #[t, t'] }) (v xv : Value) (hs : a.eval s = v) (hx : a.eval x = xv) (v' : Value) (w' : World)
    (hrun : (Builtin.append_ #[t, t'] o.type #[v, xv]).run P w = .ok v' w') (hK : K (a.put o.dst v') w') :
    if Region.wanted o (yielded ops a.tmps) = true then Oper.wp P o a w K Q else E := by
  have hw : Region.wanted o (yielded ops a.tmps) = true := by simp [Region.wanted, hg]
  rw [if_pos hw]
  unfold Oper.wp
  simp [execOp, hop, resolve, invoke, builtin, hs, hx, hrun, Result.andThen]
  exact hK
theorem down_room {W : World} {B d : Nat} {K : St} {φ : Str → Nat × Value} {mv : Value} (h : Lay W B d K φ mv) {n k : Nat} (hr : K.room = some n) (hk : k ≤ n) : Lay (W.setCell ⟨d, 2, none⟩ (.int .i64 ((n - k : Nat) : Int))) B d { K with room := some (n - k) } φ mv := by
  refine h.turn rfl ⟨h.ok.sorted, h.ok.names, fun m hm => ?_, h.ok.few, h.ok.small⟩ (fun b _ hb => Below.heap_setCell _ _ _ _ hb) ?_
  · have := h.ok.room n hr
    simp only [Option.some.injEq] at hm
    omega
  · have := heap_setCell_same W d 2 _ _ (.int .i64 ((n - k : Nat) : Int)) h.box
    rw [hr] at this
    exact this
theorem die_at {W : World} {B d : Nat} {K : St} {φ : Str → Nat × Value} {mv : Value} (h : Lay W B d K φ mv) : Lay (W.setCell ⟨d, 3, none⟩ (.bool true)) B d { K with dead := true } φ mv :=
  h.turn rfl ⟨h.ok.sorted, h.ok.names, h.ok.room, h.ok.few, h.ok.small⟩ (fun b _ hb => Below.heap_setCell _ _ _ _ hb) (heap_setCell_same W d 3 _ _ (.bool true) h.box)

set_option maxHeartbeats 4000000 in
set_option maxRecDepth 100000 in
theorem lay_all (w : World) {B d : Nat} {K : St} {φ : Str → Nat × Value} {mv : Value} (h : Lay w B d K φ mv) (hB : B ≤ w.heap.size) {f : Fl} (hf : f ∈ K.L) (t : Str) (ht : f.all.length + t.length ≤ 4194304) (hr : K.room = none) (hd : K.dead = false) :
    Calls Tryz.prog 52 #[.pointer (some ⟨d, 0, none⟩), .pointer (some ⟨(φ f.name).1, 0, none⟩), .string ⟨t.toArray⟩] w fun e w' =>
      e = .returned (.int .i64 0) ∧ (∃ φ', Lay w' B d { K with L := upd K.L f.name fun f => { f with loose := f.loose ++ t } } φ' mv) ∧ Gone isRef B w w' := by
  obtain ⟨v', w2, A, n5, cp, rfl, hrun, hL, hG, hfz, hcell, hdd⟩ := h.longer hB hf t ht
  obtain ⟨⟨_, c1, _, _⟩, _⟩ := box4 h.box
  obtain ⟨⟨f0, _⟩, _⟩ := box2 (h.file f hf).box
  obtain ⟨v5, c5⟩ := Option.isSome_iff_exists.1 hcell
  rw [hr] at c1
  have x1 : (ByteArray.mk t.toArray).extract 0 t.length = ⟨t.toArray⟩ := by rw [cut_to, List.take_length]
  have HR := Lib.hid hrun
  clear hrun
  have HL : Hid (∃ φ', Lay (w2.setCell ⟨(φ f.name).1, 0, none⟩ (.slice A n5 cp)) B d { K with L := upd K.L f.name fun f => { f with loose := f.loose ++ t } } φ' mv) := Lib.hid ⟨_, hL⟩
  have HG := Lib.hid hG
  have htl : (t.length : Int) ≤ 4194304 := by omega
  clear hcell hL hG h hB hf ht hr hd hdd
  generalize (φ f.name).1 = fb at *
  generalize (φ f.name).2 = v at *
  go_enter Tryz.func52, Tryz.ntmps52
  go_wp2
  go_region_law (refine step_append rfl (.tmp 32) (.tmp 35) 48 9 rfl v (.string ⟨t.toArray⟩) (by simp [Act.eval]) (by simp [Act.eval]) (.slice A n5 cp) w2 HR.out ?_)
  all_goals
    go_wp2
    go_ret
    exact ⟨rfl, HL.out, HG.out⟩

set_option maxHeartbeats 4000000 in
set_option maxRecDepth 100000 in
theorem lay_some (w : World) {B d n : Nat} {K : St} {φ : Str → Nat × Value} {mv : Value} (h : Lay w B d K φ mv) (hB : B ≤ w.heap.size) {f : Fl} (hf : f ∈ K.L) (t : Str) (ht : f.all.length + t.length ≤ 4194304) (hr : K.room = some n) (hd : K.dead = false) (hn : t.length ≤ n) :
    Calls Tryz.prog 52 #[.pointer (some ⟨d, 0, none⟩), .pointer (some ⟨(φ f.name).1, 0, none⟩), .string ⟨t.toArray⟩] w fun e w' =>
      e = .returned (.int .i64 0) ∧ (∃ φ', Lay w' B d { K with room := some (n - t.length), L := upd K.L f.name fun f => { f with loose := f.loose ++ t } } φ' mv) ∧ Gone isRef B w w' := by
  have h1 := down_room h hr hn
  have g1 := (Gone.refl isRef B w).set (i := 2) h.box (isRef_d _) h.base (.int .i64 ((n - t.length : Nat) : Int))
  have hnx := h.ok.room n hr
  obtain ⟨⟨_, c1, c2, c3⟩, _, _, fz2, _⟩ := box4 h.box
  rw [hr] at c1 c2
  have hm : (n : Int) - (t.length : Int) = ((n - t.length : Nat) : Int) := by omega
  have hmin : min (t.length : Int) (n : Int) = (t.length : Int) := by omega
  generalize n - t.length = m at *
  have h2 := h1
  have g2 := g1
  have w1e : Hid (w.setCell ⟨d, 2, none⟩ (.int .i64 (m : Int)) = w.setCell ⟨d, 2, none⟩ (.int .i64 (m : Int))) := Lib.hid rfl
  have htl : (t.length : Int) ≤ 4194304 := by omega
  have hnl : (n : Int) ≤ 9223372036854775807 := by omega
  have hnl0 : 0 ≤ (m : Int) := by omega
  have x1 : (ByteArray.mk t.toArray).extract 0 t.length = ⟨t.toArray⟩ := by rw [cut_to, List.take_length]
  have HF := Lib.hid hf
  have HT := Lib.hid ht
  have HB := Lib.hid hB
  have H1 := Lib.hid h1
  have G1 := Lib.hid g1
  clear h h1 h2 g1 g2 hf ht hB hr hd hn w1e hnx
  have c2' : w.cell? ⟨d, 2, none⟩ = some (.int .i64 (n : Int)) := c2
  clear c2
  generalize hfb : (φ f.name).1 = fb at *
  go_enter Tryz.func52, Tryz.ntmps52
  go_wp2
  generalize w.setCell ⟨d, 2, none⟩ (.int .i64 (m : Int)) = w1 at *
  subst hfb
  obtain ⟨v', w2, A, n5, cp, rfl, hrun, hL, hG, hfz, hcell, hdd⟩ := H1.out.longer (Nat.le_trans HB.out G1.out.size) HF.out t HT.out
  obtain ⟨⟨f0, _⟩, _⟩ := box2 (H1.out.file f HF.out).box
  obtain ⟨v5, c5⟩ := Option.isSome_iff_exists.1 hcell
  have HR := Lib.hid hrun
  have HL : Hid (∃ φ', Lay (w2.setCell ⟨(φ f.name).1, 0, none⟩ (.slice A n5 cp)) B d { K with room := some m, L := upd K.L f.name fun f => { f with loose := f.loose ++ t } } φ' mv) := Lib.hid ⟨_, hL⟩
  have HG := Lib.hid (G1.out.trans hG)
  clear hcell hL hG hdd hrun HF HT HB H1 G1
  generalize (φ f.name).1 = fb at *
  generalize (φ f.name).2 = v at *
  go_region_law (refine step_append rfl (.tmp 32) (.tmp 35) 48 9 rfl v (.string ⟨t.toArray⟩) (by simp [Act.eval]) (by simp [Act.eval]) (.slice A n5 cp) w2 HR.out ?_)
  all_goals
    go_wp2
    go_ret
    exact ⟨rfl, HL.out, HG.out⟩

set_option maxHeartbeats 4000000 in
set_option maxRecDepth 100000 in
theorem lay_die (w : World) {B d n : Nat} {K : St} {φ : Str → Nat × Value} {mv : Value} (h : Lay w B d K φ mv) (hB : B ≤ w.heap.size) {f : Fl} (hf : f ∈ K.L) (t : Str) (ht : f.all.length + t.length ≤ 4194304) (hr : K.room = some n) (hd : K.dead = false) (hn : n < t.length) :
    Calls Tryz.prog 52 #[.pointer (some ⟨d, 0, none⟩), .pointer (some ⟨(φ f.name).1, 0, none⟩), .string ⟨t.toArray⟩] w fun e w' =>
      e = .returned (.int .i64 12) ∧ (∃ φ', Lay w' B d { K with dead := true, room := some 0, L := upd K.L f.name fun f => { f with loose := f.loose ++ t.take n } } φ' mv) ∧ Gone isRef B w w' := by
  have h1 := down_room h hr (Nat.le_refl n)
  rw [Nat.sub_self] at h1
  have g1 := (Gone.refl isRef B w).set (i := 2) h.box (isRef_d _) h.base (.int .i64 ((0 : Nat) : Int))
  obtain ⟨⟨_, c1, c2, c3⟩, _, _, fz2, _⟩ := box4 h.box
  rw [hr] at c1 c2
  have hmin : min (t.length : Int) (n : Int) = (n : Int) := by omega
  have htl : (t.length : Int) ≤ 4194304 := by omega
  have hnl : (n : Int) < (t.length : Int) := by omega
  have hle : n ≤ t.length := by omega
  have hul : (t.take n).length ≤ t.length := by rw [List.length_take]; omega
  have x1 : (ByteArray.mk t.toArray).extract 0 n = ⟨(t.take n).toArray⟩ := cut_to t n
  generalize hu : t.take n = u at *
  clear hu
  have HF := Lib.hid hf
  have HT : Hid (f.all.length + u.length ≤ 4194304) := Lib.hid (by omega)
  have HB := Lib.hid hB
  have H1 := Lib.hid h1
  have G1 := Lib.hid g1
  clear h h1 g1 hf ht hB hr hd hn hul
  have c2' : w.cell? ⟨d, 2, none⟩ = some (.int .i64 (n : Int)) := c2
  clear c2
  generalize hfb : (φ f.name).1 = fb at *
  go_enter Tryz.func52, Tryz.ntmps52
  go_wp2
  rw [show (.int .i64 ((0 : Nat) : Int) : Value) = .int .i64 0 from rfl] at H1 G1
  generalize w.setCell ⟨d, 2, none⟩ (.int .i64 0) = w1 at *
  subst hfb
  obtain ⟨v', w2, A, n5, cp, rfl, hrun, hL, hG, hfz, hcell, hdd⟩ := H1.out.longer (Nat.le_trans HB.out G1.out.size) HF.out u HT.out
  obtain ⟨⟨f0, _⟩, _⟩ := box2 (H1.out.file f HF.out).box
  obtain ⟨v5, c5⟩ := Option.isSome_iff_exists.1 hcell
  have HR := Lib.hid hrun
  obtain ⟨⟨_, _, _, e3⟩, _, _, _, e7⟩ := box4 hL.box
  have HL : Hid (∃ φ', Lay ((w2.setCell ⟨(φ f.name).1, 0, none⟩ (.slice A n5 cp)).setCell ⟨d, 3, none⟩ (.bool true)) B d { K with dead := true, room := some 0, L := upd K.L f.name fun f => { f with loose := f.loose ++ u } } φ' mv) := Lib.hid ⟨_, die_at hL⟩
  have HG := Lib.hid ((G1.out.trans hG).set (i := 3) hL.box (isRef_d _) hL.base (.bool true))
  clear hcell hL hG hdd hrun HF HT HB H1 G1
  generalize (φ f.name).1 = fb at *
  generalize (φ f.name).2 = v at *
  go_region_law (refine step_append rfl (.tmp 32) (.tmp 35) 48 9 rfl v (.string ⟨u.toArray⟩) (by simp [Act.eval]) (by simp [Act.eval]) (.slice A n5 cp) w2 HR.out ?_)
  all_goals
    go_wp2
    go_ret
    exact ⟨rfl, HL.out, HG.out⟩

theorem lay_any (w : World) {B d : Nat} {K : St} {φ : Str → Nat × Value} {mv : Value} (h : Lay w B d K φ mv) (hB : B ≤ w.heap.size) {f : Fl} (hf : f ∈ K.L) (t : Str) (ht : f.all.length + t.length ≤ 4194304) (hd : K.dead = false) :
    Calls Tryz.prog 52 #[.pointer (some ⟨d, 0, none⟩), .pointer (some ⟨(φ f.name).1, 0, none⟩), .string ⟨t.toArray⟩] w fun e w' =>
      e = .returned (.int .i64 ((if (pay K t).dead then 12 else 0 : Nat) : Int)) ∧ DiskAt w' B d { pay K t with L := upd K.L f.name fun f => { f with loose := f.loose ++ fits K.room t } } ∧ Gone isRef B w w' := by
  cases hr : K.room with
  | none =>
    have e1 : pay K t = K := by
      obtain ⟨L, r, dd⟩ := K
      simp only at hr hd
      subst hr hd
      simp [pay, fits]
    refine (lay_all w h hB hf t ht hr hd).mono ?_
    rintro e w' ⟨rfl, ⟨φ', k1⟩, k2⟩
    rw [e1]
    refine ⟨by rw [hd]; rfl, ⟨φ', mv, ?_⟩, k2⟩
    exact k1
  | some n =>
    rcases Nat.lt_or_ge n t.length with hn | hn
    · have e1 : pay K t = { K with dead := true, room := some 0 } := by
        obtain ⟨L, r, dd⟩ := K
        simp only at hr hd
        subst hr hd
        have : n - min n t.length = 0 := by omega
        have h2 : min n t.length < t.length := by omega
        simp [pay, fits, this, h2]
      refine (lay_die w h hB hf t ht hr hd hn).mono ?_
      rintro e w' ⟨rfl, ⟨φ', k1⟩, k2⟩
      rw [e1]
      exact ⟨rfl, ⟨φ', mv, k1⟩, k2⟩
    · have e1 : pay K t = { K with room := some (n - t.length) } := by
        obtain ⟨L, r, dd⟩ := K
        simp only at hr hd
        subst hr hd
        have : min n t.length = t.length := by omega
        simp [pay, fits, this]
      have e2 : fits (some n) t = t := by simp [fits, List.take_of_length_le hn]
      refine (lay_some w h hB hf t ht hr hd hn).mono ?_
      rintro e w' ⟨rfl, ⟨φ', k1⟩, k2⟩
      rw [e1, e2]
      refine ⟨by show _ = Ending.returned (.int .i64 ((if K.dead then 12 else 0 : Nat) : Int)); rw [hd]; rfl, ⟨φ', mv, k1⟩, k2⟩
end Go.Proofs.YtpafialojcidnaaGreatDoor
