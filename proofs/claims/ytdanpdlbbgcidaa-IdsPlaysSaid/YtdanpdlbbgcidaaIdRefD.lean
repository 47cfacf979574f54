/- The document's pool: Lapse. -/
import Derived.Test.YtdanpdlbbgcidaaIdRefC
namespace Go.Proofs.Ytdanpdlbbgcidaa
open Go.RowKit Ids
set_option linter.unusedVariables false

/-- who is in a row is not worn -/
def Fr (K : St) : Prop := ∀ k, k < K.n → ∀ i ∈ K.row k, K.gen k i < MG
/-- the slots are f, and nothing but the pool's blocks has turned -/
structure Ps (w : World) (lo hi : Nat) (q : RPl) (K : St) (f : Sf) (W : World) : Prop where
  rs : RS W q.d q.b q.c q.put K.n K.m f
  tu : Turn lo hi w W
  inb : lo ≤ q.b ∧ q.b < hi
  ind : lo ≤ q.d ∧ q.d < hi
/-- the first p indices have lapsed -/
def lapF (q : RPl) (K : St) (p : Nat) : Sf := fun k i e => if k * K.m + i < p then slotV q (lapseTo K K.n) k i e else slotV q K k i e
section
variable {w W W' : World} {lo hi : Nat} {q : RPl} {K : St} {f g : Sf}
theorem Ps.cell (h : Ps w lo hi q K f W) {k i e : Nat} (hk : k < K.n) (hm : i < K.m) (he : e < 6) : W.cell? ⟨q.b, (k * K.m + i) * 6 + e, none⟩ = some (f k i e) ∧ W.frozen? ⟨q.b, (k * K.m + i) * 6 + e, none⟩ = false := h.rs.at_ hk hm he
theorem Ps.set (h : Ps w lo hi q K f W) {k i e : Nat} (hk : k < K.n) (hm : i < K.m) (he : e < 6) (v : Value) : Ps w lo hi q K (up3 f k i e v) (W.setCell ⟨q.b, (k * K.m + i) * 6 + e, none⟩ v) :=
  ⟨h.rs.set hk hm he v, h.tu.set (p := ⟨q.b, (k * K.m + i) * 6 + e, none⟩) h.inb.1 h.inb.2 v, h.inb, h.ind⟩
theorem Ps.below (h : Ps w lo hi q K f W) (hb : Below W.heap.size W W') : Ps w lo hi q K f W' := by
  have hl : lo ≤ W.heap.size := by have := heap_lt h.rs.box; have := h.ind; omega
  exact ⟨h.rs.below hb, h.tu.below hl hb, h.inb, h.ind⟩
theorem Ps.drewN (h : Ps w lo hi q K f W) (n : Nat) : Ps w lo hi q K f (W.drewN n) := h.below (below_dn _ _)
theorem Ps.drew (h : Ps w lo hi q K f W) : Ps w lo hi q K f W.drew := h.below ((Below.refl _ _).drew)
theorem Ps.congr (h : Ps w lo hi q K f W) (hf : ∀ k i e, k < K.n → i < K.m → e < 6 → f k i e = g k i e) : Ps w lo hi q K g W := ⟨h.rs.congr hf, h.tu, h.inb, h.ind⟩
theorem RA.ps (h : RA w q K) (hd : lo ≤ q.d ∧ q.d < hi) (hb : lo ≤ q.b ∧ q.b < hi) : Ps w lo hi q K (slotV q K) w := ⟨h.rs, Turn.refl _ _ _, hb, hd⟩
theorem lap_gen {k i : Nat} (hk : k < K.n) : (lapseTo K K.n).gen k i = lapG K k i := if_pos hk
theorem lap_row {k : Nat} (hk : k < K.n) : (lapseTo K K.n).row k = (K.row k).filter (fun i => decide (lapG K k i < MG)) := if_pos hk
theorem flag_iff {k i : Nat} : flag K k i = true ↔ i ∈ K.row k ∧ K.gen k i < K.bnd k i := by
  unfold flag
  rw [Bool.and_eq_true, List.contains_iff_mem, decide_eq_true_eq]
theorem lapG_hit {k i : Nat} (hf : flag K k i = true) : lapG K k i = K.bnd k i := if_pos (flag_iff.1 hf)
theorem lapG_miss {k i : Nat} (hf : ¬ flag K k i = true) : lapG K k i = K.gen k i := if_neg fun t => hf (flag_iff.2 t)
theorem slot_miss (fr : Fr K) {k i : Nat} (hk : k < K.n) (hf : ¬ flag K k i = true) (e : Nat) : slotV q (lapseTo K K.n) k i e = slotV q K k i e := by
  have h1 : (lapseTo K K.n).gen k i = K.gen k i := by rw [lap_gen hk, lapG_miss hf]
  have hm : i ∈ (lapseTo K K.n).row k ↔ i ∈ K.row k := by
    rw [lap_row hk, List.mem_filter, lapG_miss hf, decide_eq_true_eq]
    exact ⟨fun t => t.1, fun t => ⟨t, fr k hk i t⟩⟩
  have h2 : taken (lapseTo K K.n) k i = taken K k i := taken_eq (by rw [h1, hm])
  have h3 : rowNo q (lapseTo K K.n) k i = rowNo q K k i := by
    unfold rowNo
    by_cases x : i ∈ K.row k
    · rw [if_pos x, if_pos (hm.2 x)]
    · rw [if_neg x, if_neg fun y => x (hm.1 y)]
  match e with
  | 0 => rfl
  | 1 => rfl
  | 2 => show Value.int .i64 ((lapseTo K K.n).gen k i : Int) = Value.int .i64 (K.gen k i : Int); rw [h1]
  | 3 => rfl
  | 4 => show Value.int .i64 (rowNo q (lapseTo K K.n) k i) = Value.int .i64 (rowNo q K k i); rw [h3]
  | _ + 5 => show Value.bool (taken (lapseTo K K.n) k i) = Value.bool (taken K k i); rw [h2]
theorem slot_hit (ok : Ok K) {k i : Nat} (hk : k < K.n) (hf : flag K k i = true) (e : Nat) (he : e < 6) :
    slotV q (lapseTo K K.n) k i e = if e = 2 then .int .i64 (K.bnd k i : Int) else if e = 4 ∧ ¬ K.bnd k i < MG then .int .i64 (-1) else slotV q K k i e := by
  have h1 : (lapseTo K K.n).gen k i = K.bnd k i := by rw [lap_gen hk, lapG_hit hf]
  have hr := (flag_iff.1 hf).1
  have hm : i ∈ (lapseTo K K.n).row k ↔ K.bnd k i < MG := by
    rw [lap_row hk, List.mem_filter, lapG_hit hf, decide_eq_true_eq]
    exact ⟨fun t => t.2, fun t => ⟨hr, t⟩⟩
  have h2 : taken (lapseTo K K.n) k i = taken K k i := taken_eq (by
    rw [h1, hm]
    constructor
    · rintro ⟨a, b⟩; exact absurd b a
    · rintro ⟨a, _⟩; exact absurd hr a)
  match e, he with
  | 0, _ => rfl
  | 1, _ => rfl
  | 2, _ => show Value.int .i64 ((lapseTo K K.n).gen k i : Int) = Value.int .i64 (K.bnd k i : Int); rw [h1]
  | 3, _ => rfl
  | 4, _ =>
    show Value.int .i64 (rowNo q (lapseTo K K.n) k i) = _
    rw [if_neg (show ¬ (4 : Nat) = 2 by decide)]
    unfold rowNo
    by_cases x : K.bnd k i < MG
    · rw [if_pos (hm.2 x), if_neg (fun t => t.2 x)]
      show _ = Value.int .i64 (rowNo q K k i)
      rw [rowNo_in hr]
    · rw [if_neg (fun t => x (hm.1 t)), if_pos ⟨rfl, x⟩]
  | 5, _ => show Value.bool (taken (lapseTo K K.n) k i) = Value.bool (taken K k i); rw [h2]
theorem lapF_here {k i : Nat} (e : Nat) : lapF q K (k * K.m + i) k i e = slotV q K k i e := if_neg (Nat.lt_irrefl _)
theorem lapF_there {p k i a b : Nat} (hp : k * K.m + i = p) (hi : i < K.m) (hb : b < K.m) (hne : ¬ (a = k ∧ b = i)) (e : Nat) : lapF q K p a b e = lapF q K (p + 1) a b e := by
  unfold lapF
  have : a * K.m + b ≠ p := fun t => hne (pos_inj hb hi (t.trans hp.symm))
  by_cases h : a * K.m + b < p
  · rw [if_pos h, if_pos (by omega)]
  · rw [if_neg h, if_neg (by omega)]
theorem lapF_miss (fr : Fr K) {p k i : Nat} (hp : k * K.m + i = p) (hk : k < K.n) (hi : i < K.m) (hf : ¬ flag K k i = true) : ∀ a b e, a < K.n → b < K.m → e < 6 → lapF q K p a b e = lapF q K (p + 1) a b e := fun a b e ha hb he => by
  by_cases hx : a = k ∧ b = i
  · obtain ⟨rfl, rfl⟩ := hx
    subst hp
    rw [lapF_here]
    unfold lapF
    rw [if_pos (by omega), slot_miss fr hk hf]
  · exact lapF_there hp hi hb hx e
theorem lapF_low (ok : Ok K) {p k i : Nat} (hp : k * K.m + i = p) (hk : k < K.n) (hi : i < K.m) (hf : flag K k i = true) (hM : K.bnd k i < MG) : ∀ a b e, a < K.n → b < K.m → e < 6 → up3 (lapF q K p) k i 2 (.int .i64 (K.bnd k i : Int)) a b e = lapF q K (p + 1) a b e := fun a b e ha hb he => by
  by_cases hx : a = k ∧ b = i
  · obtain ⟨rfl, rfl⟩ := hx
    subst hp
    have e1 : lapF q K (a * K.m + b + 1) a b e = slotV q (lapseTo K K.n) a b e := if_pos (by omega)
    rw [e1, slot_hit ok hk hf e he]
    by_cases h2 : e = 2
    · rw [h2, up3_same, if_pos rfl]
    · rw [up3_other (fun t => h2 t.2.2), if_neg h2, if_neg (fun t => t.2 hM), lapF_here]
  · rw [up3_other (fun t => hx ⟨t.1, t.2.1⟩)]
    exact lapF_there hp hi hb hx e
theorem lapF_top (ok : Ok K) {p k i : Nat} (hp : k * K.m + i = p) (hk : k < K.n) (hi : i < K.m) (hf : flag K k i = true) (hM : ¬ K.bnd k i < MG) : ∀ a b e, a < K.n → b < K.m → e < 6 → up3 (up3 (lapF q K p) k i 2 (.int .i64 (K.bnd k i : Int))) k i 4 (.int .i64 (-1)) a b e = lapF q K (p + 1) a b e := fun a b e ha hb he => by
  by_cases hx : a = k ∧ b = i
  · obtain ⟨rfl, rfl⟩ := hx
    subst hp
    have e1 : lapF q K (a * K.m + b + 1) a b e = slotV q (lapseTo K K.n) a b e := if_pos (by omega)
    rw [e1, slot_hit ok hk hf e he]
    by_cases h4 : e = 4
    · rw [h4, up3_same, if_neg (by decide), if_pos ⟨rfl, hM⟩]
    · rw [up3_other (fun t => h4 t.2.2)]
      by_cases h2 : e = 2
      · rw [h2, up3_same, if_pos rfl]
      · rw [up3_other (fun t => h2 t.2.2), if_neg h2, if_neg (fun t => h4 t.1), lapF_here]
  · rw [up3_other (fun t => hx ⟨t.1, t.2.1⟩), up3_other (fun t => hx ⟨t.1, t.2.1⟩)]
    exact lapF_there hp hi hb hx e
/-- all have lapsed -/
theorem Ps.lapsed (h : Ps w lo hi q K (lapF q K (K.n * K.m)) W) (h0 : RA w q K) : RA W q (lapseTo K K.n) := by
  refine RS.ra (K := lapseTo K K.n) (h.rs.congr fun k i e hk hi he => if_pos (pos_lt hk hi)) (h0.ok.lapseTo _) h0.cap (fun k hk => ?_) (fun k hk i hi => ?_) h0.few
  · have hk' : k < K.n := hk
    rw [lap_row hk']
    exact (h0.rise k hk').filter _
  · have hk' : k < K.n := hk
    rw [lap_row hk'] at hi
    exact h0.low k hk' i (List.mem_filter.1 hi).1
end
end Go.Proofs.Ytdanpdlbbgcidaa
