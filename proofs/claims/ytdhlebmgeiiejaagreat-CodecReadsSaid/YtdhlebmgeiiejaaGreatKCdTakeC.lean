/- The code's codec: a command is taken, if it may be. Its sixteen cells are moved as one row that is not looked into. -/
import Derived.Test.YtdhlebmgeiiejaaGreatKCdReadC
import Derived.Test.YtdhlebmgeiiejaaGreatKPc
import Derived.Shelf.Abstract
import Derived.Laws.Rows
import Derived.Laws.Tables
import Derived.Laws.CopyOwn
import Derived.Deep.WholeRow
namespace Go.Proofs.YtdhlebmgeiiejaaGreat
open Go.RowKit Pz Cd Go.Shelf
set_option linter.unusedVariables false
set_option linter.unusedSimpArgs false

theorem en_chk_c : ∀ args w, (callFunc 50 args).run Tryz.prog w = .ok (.enter 50 args) w := enters_of Tryz.func50 (by kernel_rfl) rfl
theorem en_read_c : ∀ args w, (callFunc 51 args).run Tryz.prog w = .ok (.enter 51 args) w := enters_of Tryz.func51 (by kernel_rfl) rfl
abbrev CMT : TypeId := 38
theorem RX.row {T : TypeId} {b : Nat} {w W : World} {q : Rr} (h : RX T b w q W) {k : Nat} (hk : w.heap.size ≤ k) (cs : Array Value) : RX T b w q (W.setRow k cs) := by
  have hb := h.lt
  exact ⟨(setRow_other _ _ _ _ (by omega)).trans h.rd, h.ok, h.len, hb, ⟨h.grow.os, h.grow.tape, h.grow.output, by rw [setRow_size]; exact h.grow.size, fun i hi hne => (setRow_other _ _ _ _ (by omega)).trans (h.grow.block i hi hne)⟩⟩
/-- a whole row read, at an operation whose guard is decided -/
theorem load_row_if {P : Program} {ops : Array Oper} {rest : List Oper} {o : Oper} {a : Act} {w : World} {Q : Exit → Act → World → Prop} (hw : Region.wanted o (yielded ops a.tmps) = true) (ty : TypeId) (x : Operand) (ho : o.op = .load ty x)
    (g : Nat) (hx : a.eval x = .pointer (some ⟨g, 0, none⟩)) (t : TypeId) (cs : Array Value) (fr : Nat × Nat) (d : TypeDesc) (hg : w.heap[g]? = some (.cells cs t fr))
    (hu : P.underlying ty = some d) (hd : (match d with | .struct _ | .array _ _ => true | _ => false) = true) (hi : (P.info? ty).map (·.size) = some cs.size)
    (h : wpList P ops Q rest (a.put o.dst (.agg cs)) w) : wpList P ops Q (o :: rest) a w := by
  unfold wpList
  rw [if_pos hw]
  exact .inl (wp_load_row ty x ho g hx t cs fr d hg hu hd hi h)
/-- a command's cells -/
def cmA (c : Cn) : Array Value := #[.int .i64 c.k, .int .i64 c.s, .int .i64 c.i, .int .i64 c.g, .int .i64 c.b.s, .int .i64 c.b.i, .int .i64 c.b.g, .int .i64 c.b.m, .int .i64 c.b.x, .int .i64 c.b.y, .int .i64 c.b.vx, .int .i64 c.b.vy, .int .i64 c.b.h, .int .i64 c.b.p, .int .i64 c.b.l, .int .i64 c.m]
theorem cmA_val (c : Cn) : c.val = .agg (cmA c) := rfl
theorem cmA_size (c : Cn) : (cmA c).size = 16 := rfl
theorem cmA_one (c : Cn) : (cmA c).all (·.oneCell') = true := by simp [cmA, Value.oneCell']
theorem cm_info : (Tryz.prog.info? CMT).map (·.size) = some 16 := by kernel_rfl
/-- what is laid of a command's cells, opaque -/
structure Cs (cs : Array Value) : Prop where
  sz : (Tryz.prog.info? CMT).map (·.size) = some cs.size
  z : (cmA zeroC).size = cs.size
  one : cs.all (·.oneCell') = true
theorem cs_of (c : Cn) : Cs (cmA c) := ⟨by rw [cmA_size]; exact cm_info, rfl, cmA_one c⟩
theorem cs_size {a b : Array Value} (ha : Cs a) (hb : Cs b) : a.size = b.size := ha.z.symm.trans hb.z
set_option maxHeartbeats 16000000 in
set_option maxRecDepth 100000 in
theorem ctakeif_c {b : Nat} {w : World} {q : Rr} (h : CQ b w q w) : Calls Tryz.prog 49 #[.pointer (some ⟨b, 0, none⟩), .func (.func 50) #[] #[], .func (.func 51) #[] #[]] w fun e W' => e = .returned (takeC q).1.val ∧ CQ b w (takeC q).2 W' := by
  have RD : Hid (∀ W, CQ b w q W → Calls Tryz.prog 51 #[.pointer (some ⟨b, 0, none⟩)] W fun e W' => e = .returned (rawTC q).1.val ∧ CQ b w (rawTC q).2 W' ∧ W.grownBy W' (some b)) := Lib.hid fun W hW => (creadcmd_any hW.rebase).mono fun e W' ⟨h1, h2⟩ => ⟨h1, hW.trans h2, h2.grow⟩
  have CK : Hid (∀ W, Calls Tryz.prog 50 #[(rawTC q).1.val] W fun e w' => e = .returned (.int .i64 (errB (mayCmd (rawTC q).1))) ∧ Below W.heap.size W w') := Lib.hid (fun W => checkcmd_any _ W)
  rw [takeC_is q h.ok]
  generalize rawTC q = p at *
  obtain ⟨x, s3, b3⟩ := p
  simp only at RD CK ⊢
  obtain ⟨r, er⟩ : ∃ r, mayCmd x = r := ⟨_, rfl⟩
  rw [er] at CK ⊢
  clear er
  have BD := Lib.hid fun W (hW : CQ b w ⟨s3, b3⟩ W) => cbad_any hW
  have SP := Lib.hid fun W (hW : CQ b w ⟨s3, b3⟩ W) => cspoil_any hW
  simp only at BD
  have HX := cs_of x
  have HZ := cs_of zeroC
  have RES : Hid ((b3 = false → r = true → ∀ W', CQ b w ⟨s3, b3⟩ W' → Ending.returned (.agg (cmA x)) = .returned (if b3 || !r then (zeroC, Rr.no) else (x, ⟨s3, b3⟩)).1.val ∧ CQ b w (if b3 || !r then (zeroC, Rr.no) else (x, ⟨s3, b3⟩)).2 W') ∧ ((b3 || !r) = true → ∀ W', CQ b w Rr.no W' → Ending.returned (.agg (cmA zeroC)) = .returned (if b3 || !r then (zeroC, Rr.no) else (x, ⟨s3, b3⟩)).1.val ∧ CQ b w (if b3 || !r then (zeroC, Rr.no) else (x, ⟨s3, b3⟩)).2 W')) := Lib.hid ⟨fun h1 h2 W' hW => by rw [h1, h2] at *; exact ⟨rfl, hW⟩, fun h1 W' hW => by rw [h1]; exact ⟨rfl, hW⟩⟩
  rw [cmA_val] at RD CK
  have EN1 := en_chk_c
  have EN2 := en_read_c
  have hb := h.lt
  have B0 : Hid ((w.alloc (.cells (cmA zeroC) CMT)).heap[w.heap.size]? = some (.cells (cmA zeroC) CMT (0, 0))) := Lib.hid (at1 w (.cells (cmA zeroC) CMT))
  have HR := Lib.hid (h.below (bel1 w (.cells (cmA zeroC) CMT)))
  have HS : w.heap.size ≤ (w.alloc (.cells (cmA zeroC) CMT)).heap.size := (bel1 w (.cells (cmA zeroC) CMT)).size
  have ZE : cmA zeroC = #[.int .i64 0, .int .i64 0, .int .i64 0, .int .i64 0, .int .i64 0, .int .i64 0, .int .i64 0, .int .i64 0, .int .i64 0, .int .i64 0, .int .i64 0, .int .i64 0, .int .i64 0, .int .i64 0, .int .i64 0, .int .i64 0] := rfl
  obtain ⟨Z, hZ⟩ : ∃ Z, Z = cmA zeroC := ⟨_, rfl⟩
  obtain ⟨X, hX⟩ : ∃ X, X = cmA x := ⟨_, rfl⟩
  rw [← hZ] at B0 HR HS HZ RES ZE
  rw [← hX] at RD CK HX RES
  clear hZ hX h
  go_enter Tryz.func49, Tryz.ntmps49
  go_wp2_with fail
  rw [← ZE]
  generalize w.alloc (.cells Z CMT) = wa at *
  refine (RD.out _ HR.out).mono ?_
  rintro e w1 ⟨rfl, r1, g1⟩
  replace B0 := Lib.hid ((g1.block _ (lt_of_row B0.out) (by simp; omega)).trans B0.out)
  replace HS := Nat.le_trans HS g1.size
  clear HR g1 RD
  have HR := Lib.hid r1
  clear r1
  have A1 := at1 w1 (.cells Z CMT)
  have S1 := World.setRow_alloc_new w1 Z X CMT
  rw [ZE] at A1 S1
  replace A1 := Lib.hid A1
  go_upto_region 2 with (refine wpList_store_row rfl CMT (.tmp 7) (.tmp 11) rfl w1.heap.size X rfl rfl CMT _ A1.out HX.sz (by rw [← cs_size HZ HX, ZE]) HX.one ?_)
  rw [S1]
  clear A1 S1
  have HA := Lib.hid (bel1 w1 (.cells X CMT))
  have B1 := Lib.hid (at1 w1 (.cells X CMT))
  replace B0 := Lib.hid ((HA.out.block _ (lt_of_row B0.out)).trans B0.out)
  replace HR := Lib.hid (HR.out.below HA.out)
  have hlo : w.heap.size ≤ w1.heap.size := HS
  clear HS HA
  generalize w1.alloc (.cells X CMT) = w2 at *
  generalize w1.heap.size = o1 at *
  go_wp2_with fail
  refine (BD.out _ HR.out).mono ?_
  rintro e w3 ⟨rfl, rfl⟩
  clear BD
  cases b3 with
  | true =>
    clear CK
    go_wp2_with fail
    refine (SP.out _ HR.out).mono ?_
    rintro e w5 ⟨rfl, r1, g1⟩
    replace B0 := Lib.hid ((g1.block _ (lt_of_row B0.out) (by simp; omega)).trans B0.out)
    clear HR g1 SP B1
    have HR := Lib.hid r1
    clear r1
    go_upto_region 5 with fail
    rw [← ZE]
    have HA := Lib.hid (bel1 w5 (.cells Z CMT))
    have B2 := Lib.hid (at1 w5 (.cells Z CMT))
    replace B0 := Lib.hid ((HA.out.block _ (lt_of_row B0.out)).trans B0.out)
    replace HR := Lib.hid (HR.out.below HA.out)
    clear HA ZE
    generalize w5.alloc (.cells Z CMT) = w6 at *
    generalize w5.heap.size = o2 at *
    go_wp2_with (first
      | (refine wpList_load_row rfl CMT (.tmp 8) rfl o2 rfl CMT Z (0, 0) _ B2.out Tryz.underlying38 rfl HZ.sz ?_)
      | (refine wpList_store_row rfl CMT (.tmp 6) (.tmp 22) rfl w.heap.size Z rfl rfl CMT Z B0.out HZ.sz rfl HZ.one ?_))
    exact bodyPost_ret (v := .agg Z) (results_cell_row Tryz.results49 _ _ w.heap.size CMT Z (0, 0) _ rfl (setRow_heap _ _ _ _ _ _ B0.out) Tryz.underlying38 rfl HZ.sz) rfl (RES.out.2 rfl _ (HR.out.row (Nat.le_refl _) Z))
  | false =>
    cases r with
    | false =>
      rw [show errB false = 1 from rfl] at CK
      go_wp2_with (refine load_row_if rfl CMT (.tmp 7) rfl o1 rfl CMT X (0, 0) _ B1.out Tryz.underlying38 rfl HX.sz ?_)
      refine (CK.out _).mono ?_
      rintro e w4 ⟨rfl, hb4⟩
      replace B0 := Lib.hid ((hb4.block _ (lt_of_row B0.out)).trans B0.out)
      replace B1 := Lib.hid ((hb4.block _ (lt_of_row B1.out)).trans B1.out)
      replace HR := Lib.hid (HR.out.below hb4)
      clear hb4 CK
      go_wp2_with fail
      refine (SP.out _ HR.out).mono ?_
      rintro e w5 ⟨rfl, r1, g1⟩
      replace B0 := Lib.hid ((g1.block _ (lt_of_row B0.out) (by simp; omega)).trans B0.out)
      clear HR g1 SP B1
      have HR := Lib.hid r1
      clear r1
      go_upto_region 5 with fail
      rw [← ZE]
      have HA := Lib.hid (bel1 w5 (.cells Z CMT))
      have B2 := Lib.hid (at1 w5 (.cells Z CMT))
      replace B0 := Lib.hid ((HA.out.block _ (lt_of_row B0.out)).trans B0.out)
      replace HR := Lib.hid (HR.out.below HA.out)
      clear HA ZE
      generalize w5.alloc (.cells Z CMT) = w6 at *
      generalize w5.heap.size = o2 at *
      go_wp2_with (first
        | (refine wpList_load_row rfl CMT (.tmp 8) rfl o2 rfl CMT Z (0, 0) _ B2.out Tryz.underlying38 rfl HZ.sz ?_)
        | (refine wpList_store_row rfl CMT (.tmp 6) (.tmp 22) rfl w.heap.size Z rfl rfl CMT Z B0.out HZ.sz rfl HZ.one ?_))
      exact bodyPost_ret (v := .agg Z) (results_cell_row Tryz.results49 _ _ w.heap.size CMT Z (0, 0) _ rfl (setRow_heap _ _ _ _ _ _ B0.out) Tryz.underlying38 rfl HZ.sz) rfl (RES.out.2 rfl _ (HR.out.row (Nat.le_refl _) Z))
    | true =>
      rw [show errB true = 0 from rfl] at CK
      go_wp2_with (refine load_row_if rfl CMT (.tmp 7) rfl o1 rfl CMT X (0, 0) _ B1.out Tryz.underlying38 rfl HX.sz ?_)
      refine (CK.out _).mono ?_
      rintro e w4 ⟨rfl, hb4⟩
      replace B0 := Lib.hid ((hb4.block _ (lt_of_row B0.out)).trans B0.out)
      replace B1 := Lib.hid ((hb4.block _ (lt_of_row B1.out)).trans B1.out)
      replace HR := Lib.hid (HR.out.below hb4)
      clear hb4 CK
      go_wp2_with (first
        | (refine wpList_load_row rfl CMT (.tmp 7) rfl o1 rfl CMT X (0, 0) _ B1.out Tryz.underlying38 rfl HX.sz ?_)
        | (refine wpList_store_row rfl CMT (.tmp 6) (.tmp 23) rfl w.heap.size X rfl rfl CMT Z B0.out HX.sz (cs_size HZ HX) HX.one ?_))
      exact bodyPost_ret (v := .agg X) (results_cell_row Tryz.results49 _ _ w.heap.size CMT X (0, 0) _ rfl (setRow_heap _ _ _ _ _ _ B0.out) Tryz.underlying38 rfl HX.sz) rfl (RES.out.1 (by trivial) (by trivial) _ (HR.out.row (Nat.le_refl _) X))
set_option maxHeartbeats 16000000 in
set_option maxRecDepth 100000 in
theorem ctake_c {b : Nat} {w : World} {q : Rr} (h : CQ b w q w) : Calls Tryz.prog 14 #[.pointer (some ⟨b, 0, none⟩)] w fun e W' => e = .returned (takeC q).1.val ∧ CQ b w (takeC q).2 W' := by
  have C : Hid (∀ W, CQ b w q W → Calls Tryz.prog 49 #[.pointer (some ⟨b, 0, none⟩), .func (.func 50) #[] #[], .func (.func 51) #[] #[]] W fun e W' => e = .returned (takeC q).1.val ∧ CQ b w (takeC q).2 W' ∧ W.grownBy W' (some b)) := Lib.hid fun W hW => (ctakeif_c hW.rebase).mono fun e W' ⟨h1, h2⟩ => ⟨h1, hW.trans h2, h2.grow⟩
  generalize takeC q = p at *
  obtain ⟨x, q3⟩ := p
  simp only at C ⊢
  rw [cmA_val] at C ⊢
  have HX := cs_of x
  have HZ := cs_of zeroC
  have hb := h.lt
  have B0 : Hid ((w.alloc (.cells (cmA zeroC) CMT)).heap[w.heap.size]? = some (.cells (cmA zeroC) CMT (0, 0))) := Lib.hid (at1 w (.cells (cmA zeroC) CMT))
  have HR := Lib.hid (h.below (bel1 w (.cells (cmA zeroC) CMT)))
  have ZE : cmA zeroC = #[.int .i64 0, .int .i64 0, .int .i64 0, .int .i64 0, .int .i64 0, .int .i64 0, .int .i64 0, .int .i64 0, .int .i64 0, .int .i64 0, .int .i64 0, .int .i64 0, .int .i64 0, .int .i64 0, .int .i64 0, .int .i64 0] := rfl
  obtain ⟨Z, hZ⟩ : ∃ Z, Z = cmA zeroC := ⟨_, rfl⟩
  rw [← hZ] at B0 HR HZ ZE
  generalize cmA x = X at *
  clear hZ h
  go_enter Tryz.func14, Tryz.ntmps14
  go_wp2_with fail
  rw [← ZE]
  generalize w.alloc (.cells Z CMT) = wa at *
  refine (C.out _ HR.out).mono ?_
  rintro e w1 ⟨rfl, r1, g1⟩
  replace B0 := Lib.hid ((g1.block _ (lt_of_row B0.out) (by simp; omega)).trans B0.out)
  clear HR g1 C ZE
  have HR := Lib.hid r1
  clear r1
  go_wp2_with (refine wpList_store_row rfl CMT (.tmp 2) (.tmp 4) rfl w.heap.size X rfl rfl CMT Z B0.out HX.sz (cs_size HZ HX) HX.one ?_)
  exact bodyPost_ret (v := .agg X) (results_cell_row Tryz.results14 _ _ w.heap.size CMT X (0, 0) _ rfl (setRow_heap _ _ _ _ _ _ B0.out) Tryz.underlying38 rfl HX.sz) rfl ⟨rfl, HR.out.row (Nat.le_refl _) X⟩
end Go.Proofs.YtdhlebmgeiiejaaGreat
