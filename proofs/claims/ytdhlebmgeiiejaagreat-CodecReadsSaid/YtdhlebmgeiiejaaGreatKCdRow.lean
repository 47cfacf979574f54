/- Rows of names and of commands: one's own, and such as are read. Written by wip/tools/gencdrow.py. -/
import Derived.Test.YtdhlebmgeiiejaaGreatKPz
import Derived.Test.YtdhlebmgeiiejaaGreatKPure
namespace Go.Proofs.YtdhlebmgeiiejaaGreat
open Go.RowKit Pz Cd
set_option linter.unusedVariables false

abbrev nkE (x : NKy) : List Value := [.int .i64 x.1, .int .i64 x.2.1, .int .i64 x.2.2]
abbrev OwnN (W : World) (B : Nat) (v : Value) (l : List NKy) : Prop := Rw nkE 29 3 W B v l
theorem nkE_len (x : NKy) : (nkE x).length = 3 := rfl
theorem nkE_one (x : NKy) : ∀ u ∈ nkE x, u.oneCell' = true := by
  intro u hu
  simp only [nkE, List.mem_cons, List.not_mem_nil, or_false] at hu
  rcases hu with rfl | rfl | rfl <;> rfl
theorem id_info : (Tryz.prog.info? 29).map (fun i => (i.zero, i.size, i.bytes)) = some (some (.agg #[.int .i64 0, .int .i64 0, .int .i64 0]), 3, 24) := by kernel_rfl
def RdI3 (W : World) (B : Nat) (A : Option Addr) (l : List NKy) : Prop :=
  ∀ (j : Nat) (x : NKy), l[j]? = some x → ∃ g o, A = some ⟨g, o, none⟩ ∧ g < B ∧ (W.cell? ⟨g, o + j * 3, none⟩ = some (.int .i64 x.1) ∧ W.cell? ⟨g, o + j * 3 + 1, none⟩ = some (.int .i64 x.2.1) ∧ W.cell? ⟨g, o + j * 3 + 2, none⟩ = some (.int .i64 x.2.2))
section
variable {W W' : World} {B : Nat} {A : Option Addr} {l : List NKy}
theorem RdI3.below (h : RdI3 W B A l) (hb : Below B W W') : RdI3 W' B A l := fun j x hx => by
  obtain ⟨g, o, e, hg, h0, h1, h2⟩ := h j x hx
  exact ⟨g, o, e, hg, (hb.cell (p := ⟨g, _, none⟩) hg).trans h0, (hb.cell (p := ⟨g, _, none⟩) hg).trans h1, (hb.cell (p := ⟨g, _, none⟩) hg).trans h2⟩
theorem RdI3.more (h : RdI3 W B A l) {B' : Nat} (hB : B ≤ B') : RdI3 W B' A l := fun j x hx => by
  obtain ⟨g, o, e, hg, h⟩ := h j x hx
  exact ⟨g, o, e, by omega, h⟩
theorem RdI3.of_own {c : Nat} {B0 : Nat} (h : OwnN W B0 (.slice A l.length c) l) : RdI3 W W.heap.size A l := fun j x hx => by
  obtain ⟨g, o, c', e, _, hg, hc⟩ := h.at_ hx
  cases e
  exact ⟨g, o, rfl, hg, (hc 0 _ rfl).1, (hc 1 _ rfl).1, (hc 2 _ rfl).1⟩
theorem RdI3.of_reads (h : ReadsK W B A 3 (l.map nkE)) : RdI3 W B A l := fun j x hx => by
  have hj := (List.getElem?_eq_some_iff.1 hx).1
  obtain ⟨g, o, e, hg, hc⟩ := h (by rw [List.length_map]; omega)
  have hr : (l.map nkE)[j]? = some (nkE x) := by rw [List.getElem?_map, hx]; rfl
  exact ⟨g, o, e, hg, hc j _ hr 0 _ rfl, hc j _ hr 1 _ rfl, hc j _ hr 2 _ rfl⟩
end
abbrev cnE (x : Cn) : List Value := [.int .i64 x.k, .int .i64 x.s, .int .i64 x.i, .int .i64 x.g, .int .i64 x.b.s, .int .i64 x.b.i, .int .i64 x.b.g, .int .i64 x.b.m, .int .i64 x.b.x, .int .i64 x.b.y, .int .i64 x.b.vx, .int .i64 x.b.vy, .int .i64 x.b.h, .int .i64 x.b.p, .int .i64 x.b.l, .int .i64 x.m]
abbrev OwnC (W : World) (B : Nat) (v : Value) (l : List Cn) : Prop := Rw cnE 38 16 W B v l
theorem cnE_len (x : Cn) : (cnE x).length = 16 := rfl
theorem cnE_one (x : Cn) : ∀ u ∈ cnE x, u.oneCell' = true := by
  intro u hu
  simp only [cnE, List.mem_cons, List.not_mem_nil, or_false] at hu
  rcases hu with rfl | rfl | rfl | rfl | rfl | rfl | rfl | rfl | rfl | rfl | rfl | rfl | rfl | rfl | rfl | rfl <;> rfl
theorem cmd_info : (Tryz.prog.info? 38).map (fun i => (i.zero, i.size, i.bytes)) = some (some (.agg #[.int .i64 0, .int .i64 0, .int .i64 0, .int .i64 0, .int .i64 0, .int .i64 0, .int .i64 0, .int .i64 0, .int .i64 0, .int .i64 0, .int .i64 0, .int .i64 0, .int .i64 0, .int .i64 0, .int .i64 0, .int .i64 0]), 16, 128) := by kernel_rfl
def RdC (W : World) (B : Nat) (A : Option Addr) (l : List Cn) : Prop :=
  ∀ (j : Nat) (x : Cn), l[j]? = some x → ∃ g o, A = some ⟨g, o, none⟩ ∧ g < B ∧ (W.cell? ⟨g, o + j * 16, none⟩ = some (.int .i64 x.k) ∧ W.cell? ⟨g, o + j * 16 + 1, none⟩ = some (.int .i64 x.s) ∧ W.cell? ⟨g, o + j * 16 + 2, none⟩ = some (.int .i64 x.i) ∧ W.cell? ⟨g, o + j * 16 + 3, none⟩ = some (.int .i64 x.g) ∧ W.cell? ⟨g, o + j * 16 + 4, none⟩ = some (.int .i64 x.b.s) ∧ W.cell? ⟨g, o + j * 16 + 5, none⟩ = some (.int .i64 x.b.i) ∧ W.cell? ⟨g, o + j * 16 + 6, none⟩ = some (.int .i64 x.b.g) ∧ W.cell? ⟨g, o + j * 16 + 7, none⟩ = some (.int .i64 x.b.m) ∧ W.cell? ⟨g, o + j * 16 + 8, none⟩ = some (.int .i64 x.b.x) ∧ W.cell? ⟨g, o + j * 16 + 9, none⟩ = some (.int .i64 x.b.y) ∧ W.cell? ⟨g, o + j * 16 + 10, none⟩ = some (.int .i64 x.b.vx) ∧ W.cell? ⟨g, o + j * 16 + 11, none⟩ = some (.int .i64 x.b.vy) ∧ W.cell? ⟨g, o + j * 16 + 12, none⟩ = some (.int .i64 x.b.h) ∧ W.cell? ⟨g, o + j * 16 + 13, none⟩ = some (.int .i64 x.b.p) ∧ W.cell? ⟨g, o + j * 16 + 14, none⟩ = some (.int .i64 x.b.l) ∧ W.cell? ⟨g, o + j * 16 + 15, none⟩ = some (.int .i64 x.m))
section
variable {W W' : World} {B : Nat} {A : Option Addr} {l : List Cn}
theorem RdC.below (h : RdC W B A l) (hb : Below B W W') : RdC W' B A l := fun j x hx => by
  obtain ⟨g, o, e, hg, h0, h1, h2, h3, h4, h5, h6, h7, h8, h9, h10, h11, h12, h13, h14, h15⟩ := h j x hx
  exact ⟨g, o, e, hg, (hb.cell (p := ⟨g, _, none⟩) hg).trans h0, (hb.cell (p := ⟨g, _, none⟩) hg).trans h1, (hb.cell (p := ⟨g, _, none⟩) hg).trans h2, (hb.cell (p := ⟨g, _, none⟩) hg).trans h3, (hb.cell (p := ⟨g, _, none⟩) hg).trans h4, (hb.cell (p := ⟨g, _, none⟩) hg).trans h5, (hb.cell (p := ⟨g, _, none⟩) hg).trans h6, (hb.cell (p := ⟨g, _, none⟩) hg).trans h7, (hb.cell (p := ⟨g, _, none⟩) hg).trans h8, (hb.cell (p := ⟨g, _, none⟩) hg).trans h9, (hb.cell (p := ⟨g, _, none⟩) hg).trans h10, (hb.cell (p := ⟨g, _, none⟩) hg).trans h11, (hb.cell (p := ⟨g, _, none⟩) hg).trans h12, (hb.cell (p := ⟨g, _, none⟩) hg).trans h13, (hb.cell (p := ⟨g, _, none⟩) hg).trans h14, (hb.cell (p := ⟨g, _, none⟩) hg).trans h15⟩
theorem RdC.more (h : RdC W B A l) {B' : Nat} (hB : B ≤ B') : RdC W B' A l := fun j x hx => by
  obtain ⟨g, o, e, hg, h⟩ := h j x hx
  exact ⟨g, o, e, by omega, h⟩
theorem RdC.of_own {c : Nat} {B0 : Nat} (h : OwnC W B0 (.slice A l.length c) l) : RdC W W.heap.size A l := fun j x hx => by
  obtain ⟨g, o, c', e, _, hg, hc⟩ := h.at_ hx
  cases e
  exact ⟨g, o, rfl, hg, (hc 0 _ rfl).1, (hc 1 _ rfl).1, (hc 2 _ rfl).1, (hc 3 _ rfl).1, (hc 4 _ rfl).1, (hc 5 _ rfl).1, (hc 6 _ rfl).1, (hc 7 _ rfl).1, (hc 8 _ rfl).1, (hc 9 _ rfl).1, (hc 10 _ rfl).1, (hc 11 _ rfl).1, (hc 12 _ rfl).1, (hc 13 _ rfl).1, (hc 14 _ rfl).1, (hc 15 _ rfl).1⟩
theorem RdC.of_reads (h : ReadsK W B A 16 (l.map cnE)) : RdC W B A l := fun j x hx => by
  have hj := (List.getElem?_eq_some_iff.1 hx).1
  obtain ⟨g, o, e, hg, hc⟩ := h (by rw [List.length_map]; omega)
  have hr : (l.map cnE)[j]? = some (cnE x) := by rw [List.getElem?_map, hx]; rfl
  exact ⟨g, o, e, hg, hc j _ hr 0 _ rfl, hc j _ hr 1 _ rfl, hc j _ hr 2 _ rfl, hc j _ hr 3 _ rfl, hc j _ hr 4 _ rfl, hc j _ hr 5 _ rfl, hc j _ hr 6 _ rfl, hc j _ hr 7 _ rfl, hc j _ hr 8 _ rfl, hc j _ hr 9 _ rfl, hc j _ hr 10 _ rfl, hc j _ hr 11 _ rfl, hc j _ hr 12 _ rfl, hc j _ hr 13 _ rfl, hc j _ hr 14 _ rfl, hc j _ hr 15 _ rfl⟩
end
theorem RdI3.nil (W : World) (B : Nat) (A : Option Addr) : RdI3 W B A [] := fun j x hx => by simp at hx
theorem RdB.nil (W : World) (B : Nat) (A : Option Addr) : RdB W B A [] := fun j x hx => by simp at hx
theorem RdC.nil (W : World) (B : Nat) (A : Option Addr) : RdC W B A [] := fun j x hx => by simp at hx
end Go.Proofs.YtdhlebmgeiiejaaGreat
