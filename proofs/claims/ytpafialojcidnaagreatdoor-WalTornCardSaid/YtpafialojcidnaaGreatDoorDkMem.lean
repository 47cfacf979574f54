/- A disk in memory: a struct behind a pointer, a map from names to files, each file a struct with a row of bytes of its own. -/
import Derived.Test.YtpafialojcidnaaGreatDoorDkPure
import Derived.Test.YtpafialojcidnaaGreatDoorOpen
import Derived.Test.YtpafialojcidnaaGreatDoorWb
import Derived.Maps.OwnSet
import Derived.Maps.RangeWalk
import Derived.Lib.UnsafeStr
namespace Go.Proofs.YtpafialojcidnaaGreatDoor
open Go.RowKit Go.Maps Dk
set_option linter.unusedVariables false

theorem strKey : Keyed Tryz.prog 9 := string_keyed Tryz.underlying9
/-- how an element of the map is read: the block of the file -/
def fptr : Value → Option (DataW Unit × List MemPlace)
  | .pointer (some ⟨b, 0, none⟩) => some (.lit (.int .i64 b), [])
  | .pointer none => some (.nil, [])
  | _ => none
theorem fptr_at (b : Nat) : fptr (.pointer (some ⟨b, 0, none⟩)) = some (.lit (.int .i64 b), []) := rfl
theorem fptr_form {v : Value} {y : DataW Unit × List MemPlace} (h : fptr v = some y) : (v = .pointer none ∧ y = (.nil, [])) ∨ ∃ b : Nat, v = .pointer (some ⟨b, 0, none⟩) ∧ y = (.lit (.int .i64 b), []) := by
  unfold fptr at h
  split at h
  · exact .inr ⟨_, rfl, (Option.some.inj h).symm⟩
  · exact .inl ⟨rfl, (Option.some.inj h).symm⟩
  · cases h
theorem fptr_inv {v : Value} {b : Nat} {ps : List MemPlace} (h : fptr v = some (.lit (.int .i64 b), ps)) : v = .pointer (some ⟨b, 0, none⟩) := by
  rcases fptr_form h with ⟨_, h2⟩ | ⟨b', rfl, h2⟩
  · cases h2
  · simp only [Prod.mk.injEq, DataW.lit.injEq, Lit.int.injEq, true_and] at h2
    have : b = b' := by omega
    rw [this]

/-! ### what turns and what doesn't -/
/-- what a disk's deeds leave as it was; what the document's leave so -/
def isRef : Obj → Bool
  | .cells _ T _ => !(T == 65 || T == 70 || T == 5)
  | .map .. => false
  | _ => true
def isDsk : Obj → Bool
  | .cells _ T _ => !(T == 59)
  | .mapIter .. => false
  | _ => true
/-- all but a file's struct -/
def isFil : Obj → Bool
  | .cells _ T _ => !(T == 70)
  | _ => true
/-- all but a disk, its files, a log -/
def isLog : Obj → Bool
  | .cells _ T _ => !(T == 65 || T == 70 || T == 5 || T == 59)
  | .map .. => false
  | _ => true
/-- all but a log -/
def isNlg : Obj → Bool
  | .cells _ T _ => !(T == 59)
  | _ => true
/-- all but the map of the disk at d -/
def Onl (d : Nat) (W W' : World) : Prop := ∀ b, b < W.heap.size → W.cell? ⟨d, 0, none⟩ ≠ some (.map (some b)) → W'.heap[b]? = W.heap[b]?
def Kp (p : Obj → Bool) (W W' : World) : Prop := ∀ (b : Nat) (o : Obj), W.heap[b]? = some o → p o = true → W'.heap[b]? = some o
theorem Kp.refl (p : Obj → Bool) (W : World) : Kp p W W := fun _ _ h _ => h
theorem Kp.trans {p : Obj → Bool} {a b c : World} (h : Kp p a b) (k : Kp p b c) : Kp p a c := fun i o hi hp => k i o (h i o hi hp) hp
theorem heap_lt {W : World} {b : Nat} {o : Obj} (h : W.heap[b]? = some o) : b < W.heap.size := (Array.getElem?_eq_some_iff.1 h).1
theorem Kp.below {p : Obj → Bool} {W W' : World} (h : Below W.heap.size W W') : Kp p W W' := fun b o hb _ => (h.block b (heap_lt hb)).trans hb
theorem ne_heap {W : World} {b b' : Nat} {o o' : Obj} (h : W.heap[b]? = some o) (h' : W.heap[b']? = some o') (hne : o ≠ o') : b ≠ b' := fun e => by
  subst e
  rw [h] at h'
  exact hne (Option.some.inj h')
theorem Kp.set {p : Obj → Bool} {W : World} {b i : Nat} {o : Obj} (h : W.heap[b]? = some o) (hp : p o = false) (v : Value) : Kp p W (W.setCell ⟨b, i, none⟩ v) := fun c o' hc ho =>
  (Below.heap_setCell W ⟨b, i, none⟩ v c (ne_heap hc h (fun e => by rw [e, hp] at ho; cases ho))).trans hc
theorem Kp.grown {p : Obj → Bool} {W W' : World} {row : Option Nat} (hg : W.grownBy W' row) (hr : ∀ (k : Nat) (o : Obj), row = some k → W.heap[k]? = some o → p o = false) : Kp p W W' := fun c o hc ho =>
  (hg.block c (heap_lt hc) (fun e => by rw [hr c o e.symm hc] at ho; cases ho)).trans hc

structure Gone (p : Obj → Bool) (B : Nat) (W W' : World) : Prop where
  bel : Below B W W'
  kp : Kp p W W'
theorem Gone.refl (p : Obj → Bool) (B : Nat) (W : World) : Gone p B W W := ⟨Below.refl _ _, Kp.refl _ _⟩
theorem Gone.trans {p : Obj → Bool} {B : Nat} {a b c : World} (h : Gone p B a b) (k : Gone p B b c) : Gone p B a c := ⟨h.bel.trans k.bel, h.kp.trans k.kp⟩
theorem Gone.below {p : Obj → Bool} {B : Nat} {a b c : World} (h : Gone p B a b) (hB : B ≤ b.heap.size) (k : Below b.heap.size b c) : Gone p B a c := ⟨h.bel.trans (k.mono hB), h.kp.trans (Kp.below k)⟩
theorem Gone.set {p : Obj → Bool} {B : Nat} {a W : World} (h : Gone p B a W) {b i : Nat} {o : Obj} (hb : W.heap[b]? = some o) (hp : p o = false) (hB : B ≤ b) (v : Value) : Gone p B a (W.setCell ⟨b, i, none⟩ v) :=
  ⟨h.bel.setCell hB v, h.kp.trans (Kp.set hb hp v)⟩
theorem Gone.grown {p : Obj → Bool} {B : Nat} {a W W' : World} {row : Option Nat} (h : Gone p B a W) (hg : W.grownBy W' row) (hB : B ≤ W.heap.size) (hr : ∀ k, row = some k → B ≤ k) (hk : ∀ (k : Nat) (o : Obj), row = some k → W.heap[k]? = some o → p o = false) : Gone p B a W' :=
  ⟨h.bel.grown hg hB hr, h.kp.trans (Kp.grown hg hk)⟩
theorem Gone.size {p : Obj → Bool} {B : Nat} {a b : World} (h : Gone p B a b) : a.heap.size ≤ b.heap.size := h.bel.size
theorem Gone.mono {p : Obj → Bool} {B B' : Nat} {a b : World} (h : Gone p B a b) (hB : B' ≤ B) : Gone p B' a b := ⟨h.bel.mono hB, h.kp⟩
/-- all but these blocks are as they were -/
def Ag (X : Nat → Prop) (W W' : World) : Prop := ∀ b, b < W.heap.size → ¬ X b → W'.heap[b]? = W.heap[b]?

/-! ### a file -/
/-- the blocks of a file: its struct, its row -/
def Of (x : Nat × Value) (b : Nat) : Prop := b = x.1 ∨ x.2.ownBlock = some b
structure FileAt (W : World) (B : Nat) (x : Nat × Value) (f : Fl) : Prop where
  base : B ≤ x.1
  box : W.heap[x.1]? = some (.cells #[x.2, .int .i64 (f.sure.length : Int)] 70 (0, 0))
  row : W.ownsRow B 5 1 x.2 f.all.length (Lib.byteCells f.all)
theorem row_kept {W W' : World} {B : Nat} {e : TypeId} {k n : Nat} {v : Value} {xs : List Value} (h : W.ownsRow B e k v n xs) (hk : ∀ b, v.ownBlock = some b → W'.heap[b]? = W.heap[b]?) : W'.ownsRow B e k v n xs := by
  refine ⟨h.1, ?_⟩
  rcases h.2 with hn | ⟨g, cap, cur, rfl, hb, hg, rest⟩
  · exact .inl hn
  · exact .inr ⟨g, cap, cur, rfl, hb, (hk g rfl).trans hg, rest⟩
theorem row_block {W : World} {B : Nat} {e : TypeId} {k n b : Nat} {v : Value} {xs : List Value} (h : W.ownsRow B e k v n xs) (hv : v.ownBlock = some b) : B ≤ b ∧ ∃ cs, W.heap[b]? = some (.cells cs e (0, 0)) := by
  rcases h.2 with ⟨rfl, _⟩ | ⟨g, cap, cur, rfl, hb, hg, rest⟩
  · simp [Value.ownBlock] at hv
  · simp only [Value.ownBlock, Option.some.injEq] at hv
    subst hv
    exact ⟨hb, cur, hg⟩
theorem FileAt.kept {W W' : World} {B : Nat} {x : Nat × Value} {f : Fl} (h : FileAt W B x f) (hk : ∀ b, Of x b → W'.heap[b]? = W.heap[b]?) : FileAt W' B x f :=
  ⟨h.base, (hk _ (.inl rfl)).trans h.box, row_kept h.row fun b hb => hk b (.inr hb)⟩
theorem FileAt.of {W : World} {B : Nat} {x : Nat × Value} {f : Fl} (h : FileAt W B x f) {b : Nat} (hb : Of x b) : B ≤ b ∧ ∃ cs T, W.heap[b]? = some (.cells cs T (0, 0)) ∧ (T = 70 ∨ T = 5) := by
  rcases hb with rfl | hb
  · exact ⟨h.base, _, _, h.box, .inl rfl⟩
  · obtain ⟨h1, cs, h2⟩ := row_block h.row hb
    exact ⟨h1, cs, _, h2, .inr rfl⟩
theorem FileAt.kp {W W' : World} {B : Nat} {x : Nat × Value} {f : Fl} (h : FileAt W B x f) (hk : Kp isDsk W W') : FileAt W' B x f :=
  h.kept fun b hb => by
    obtain ⟨_, cs, T, h2, h3⟩ := h.of hb
    rw [h2]
    exact hk b _ h2 (by rcases h3 with rfl | rfl <;> rfl)
theorem FileAt.mono {W : World} {B B' : Nat} {x : Nat × Value} {f : Fl} (h : FileAt W B x f) (hB : B' ≤ B) : FileAt W B' x f :=
  ⟨Nat.le_trans hB h.base, h.box, h.row.1, h.row.2.imp id fun ⟨g, cap, cur, a, b, c⟩ => ⟨g, cap, cur, a, Nat.le_trans hB b, c⟩⟩

/-! ### the map -/
def MapAt (W : World) (B : Nat) (mv : Value) (L : List Fl) (φ : Str → Nat × Value) : Prop :=
  (mv = .map none ∧ L = []) ∨ ∃ m D, mv = .map (some m) ∧ B ≤ m ∧ W.ownsMap Tryz.prog 9 fptr m (Maps.size D) D ∧ Maps.size D = L.length ∧ (∀ s, Maps.has D (.string s) = Dk.has L s) ∧ ∀ f ∈ L, D.atKey (.string f.name) .nil = .lit (.int .i64 ((φ f.name).1 : Int))
theorem own_kept {W W' : World} {m n : Nat} {D : DataW Unit} (h : W.ownsMap Tryz.prog 9 fptr m n D) (hk : W'.heap[m]? = W.heap[m]?) : W'.ownsMap Tryz.prog 9 fptr m n D := by
  obtain ⟨es, clock, hb, r⟩ := h
  exact ⟨es, clock, hk.trans hb, r⟩
theorem own_heap {W : World} {m n : Nat} {D : DataW Unit} (h : W.ownsMap Tryz.prog 9 fptr m n D) : ∃ es c, W.heap[m]? = some (.map es c) := by
  obtain ⟨es, clock, hb, r⟩ := h
  exact ⟨es, clock, hb⟩
theorem own_tight {W : World} {m n : Nat} {D : DataW Unit} (h : W.ownsMap Tryz.prog 9 fptr m n D) : W.ownsMap Tryz.prog 9 fptr m (Maps.size D) D := by
  obtain ⟨es, clock, hb, F, hs, hD⟩ := h
  refine ⟨es, clock, hb, F, ?_, hD⟩
  rw [hD]
  simp [Maps.size, length_sorted]
theorem MapAt.kept {W W' : World} {B : Nat} {mv : Value} {L : List Fl} {φ : Str → Nat × Value} (h : MapAt W B mv L φ) (hk : ∀ m, mv = .map (some m) → W'.heap[m]? = W.heap[m]?) : MapAt W' B mv L φ := by
  rcases h with h | ⟨m, D, rfl, h1, h2, h3⟩
  · exact .inl h
  · exact .inr ⟨m, D, rfl, h1, own_kept h2 (hk m rfl), h3⟩
theorem MapAt.block {W : World} {B m : Nat} {L : List Fl} {φ : Str → Nat × Value} (h : MapAt W B (.map (some m)) L φ) : B ≤ m ∧ ∃ es c, W.heap[m]? = some (.map es c) := by
  rcases h with ⟨h, _⟩ | ⟨m', D, h0, h1, h2, h3⟩
  · cases h
  · cases h0
    exact ⟨h1, own_heap h2⟩
/-- other files at the same names -/
theorem MapAt.names {W : World} {B : Nat} {mv : Value} {L L' : List Fl} {φ φ' : Str → Nat × Value} (h : MapAt W B mv L φ) (hn : L'.map (·.name) = L.map (·.name)) (hφ : ∀ s, (φ' s).1 = (φ s).1) : MapAt W B mv L' φ' := by
  have hl : L'.length = L.length := by have := congrArg List.length hn; simpa using this
  rcases h with ⟨h1, rfl⟩ | ⟨m, D, rfl, h1, h2, h3, h4, h5⟩
  · exact .inl ⟨h1, List.eq_nil_of_length_eq_zero hl⟩
  · refine .inr ⟨m, D, rfl, h1, h2, h3.trans hl.symm, fun s => (h4 s).trans (has_names hn s).symm, fun f hf => ?_⟩
    have : f.name ∈ L.map (·.name) := by rw [← hn]; exact List.mem_map.2 ⟨f, hf, rfl⟩
    obtain ⟨g, hg, he⟩ := List.mem_map.1 this
    rw [← he, hφ]
    exact h5 g hg

/-! ### the disk -/
structure Lay (W : World) (B d : Nat) (K : St) (φ : Str → Nat × Value) (mv : Value) : Prop where
  ok : Ok K
  base : B ≤ d
  box : W.heap[d]? = some (.cells #[mv, .bool K.room.isSome, .int .i64 ((K.room.getD 0 : Nat) : Int), .bool K.dead] 65 (0, 0))
  map : MapAt W B mv K.L φ
  file : ∀ f ∈ K.L, FileAt W B (φ f.name) f
  apart : ∀ f ∈ K.L, ∀ g ∈ K.L, f.name ≠ g.name → ∀ b, Of (φ f.name) b → ¬ Of (φ g.name) b
def DiskAt (W : World) (B d : Nat) (K : St) : Prop := ∃ φ mv, Lay W B d K φ mv

section
variable {W W' : World} {B d : Nat} {K : St} {φ : Str → Nat × Value} {mv : Value}
theorem Lay.lt (h : Lay W B d K φ mv) : d < W.heap.size := heap_lt h.box
theorem Lay.file_d (h : Lay W B d K φ mv) {f : Fl} (hf : f ∈ K.L) {b : Nat} (hb : Of (φ f.name) b) : b ≠ d := by
  obtain ⟨_, cs, T, h2, h3⟩ := (h.file f hf).of hb
  exact ne_heap h2 h.box (by rcases h3 with rfl | rfl <;> (intro e; injection e with _ e2; cases e2))
theorem Lay.file_m (h : Lay W B d K φ mv) {f : Fl} (hf : f ∈ K.L) {b m : Nat} (hb : Of (φ f.name) b) (hm : mv = .map (some m)) : b ≠ m := by
  subst hm
  obtain ⟨_, cs, T, h2, h3⟩ := (h.file f hf).of hb
  obtain ⟨_, es, c, h4⟩ := h.map.block
  exact ne_heap h2 h4 (fun e => by cases e)
theorem Lay.d_m (h : Lay W B d K φ mv) {m : Nat} (hm : mv = .map (some m)) : m ≠ d := by
  subst hm
  obtain ⟨_, es, c, h4⟩ := h.map.block
  exact ne_heap h4 h.box (fun e => by cases e)
theorem Lay.kp (h : Lay W B d K φ mv) (hk : Kp isDsk W W') : Lay W' B d K φ mv :=
  ⟨h.ok, h.base, hk _ _ h.box rfl, h.map.kept fun m hm => by
    subst hm
    obtain ⟨_, es, c, h4⟩ := h.map.block
    rw [h4]
    exact hk _ _ h4 rfl, fun f hf => (h.file f hf).kp hk, h.apart⟩
theorem Lay.below (h : Lay W B d K φ mv) (hb : Below W.heap.size W W') : Lay W' B d K φ mv := h.kp (Kp.below hb)
/-- another struct at the disk's place -/
theorem Lay.turn (h : Lay W B d K φ mv) {K' : St} (hL : K'.L = K.L) (hok : Ok K') (hag : Ag (· = d) W W')
    (hbox : W'.heap[d]? = some (.cells #[mv, .bool K'.room.isSome, .int .i64 ((K'.room.getD 0 : Nat) : Int), .bool K'.dead] 65 (0, 0))) : Lay W' B d K' φ mv := by
  refine ⟨hok, h.base, hbox, ?_, fun f hf => ?_, ?_⟩
  · rw [hL]
    refine h.map.kept fun m hm => ?_
    subst hm
    exact hag m (heap_lt h.map.block.2.choose_spec.choose_spec) (h.d_m rfl)
  · rw [hL] at hf
    refine (h.file f hf).kept fun b hb => hag b ?_ (h.file_d hf hb)
    obtain ⟨_, cs, T, h2, _⟩ := (h.file f hf).of hb
    exact heap_lt h2
  · rw [hL]; exact h.apart
/-- another file at a name -/
def up (φ : Str → Nat × Value) (s : Str) (x : Nat × Value) : Str → Nat × Value := fun t => if t = s then x else φ t
theorem up_same (φ : Str → Nat × Value) (s : Str) (x : Nat × Value) : up φ s x s = x := if_pos rfl
theorem up_other {φ : Str → Nat × Value} {s t : Str} {x : Nat × Value} (h : t ≠ s) : up φ s x t = φ t := if_neg h
theorem Lay.filed (h : Lay W B d K φ mv) {f : Fl} (hf : f ∈ K.L) {g : Fl → Fl} (hg : ∀ a, a.name = f.name → (g a).name = f.name) {x : Nat × Value} (hx : x.1 = (φ f.name).1) (hfile : FileAt W' B x (g f))
    (hown : ∀ b, x.2.ownBlock = some b → (φ f.name).2.ownBlock = some b ∨ W.heap.size ≤ b) (hag : Ag (Of (φ f.name)) W W') (hok : Ok { K with L := upd K.L f.name g }) :
    Lay W' B d { K with L := upd K.L f.name g } (up φ f.name x) mv := by
  have hof : ∀ b, Of x b → Of (φ f.name) b ∨ W.heap.size ≤ b := fun b hb => by
    rcases hb with rfl | hb
    · exact .inl (.inl hx)
    · rcases hown b hb with h1 | h1
      · exact .inl (.inr h1)
      · exact .inr h1
  have olt : ∀ a ∈ K.L, ∀ b, Of (φ a.name) b → b < W.heap.size := fun a ha b hb => by
    obtain ⟨_, cs, T, h2, _⟩ := (h.file a ha).of hb
    exact heap_lt h2
  refine ⟨hok, h.base, ?_, ?_, fun a ha => ?_, fun a ha c hc hne b hb hb' => ?_⟩
  · exact (hag d h.lt (fun hd => h.file_d hf hd rfl)).trans h.box
  · refine (h.map.kept fun m hm => ?_).names (upd_names (hg)) (fun s => ?_)
    · subst hm
      exact hag m (heap_lt h.map.block.2.choose_spec.choose_spec) (fun hb => h.file_m hf hb rfl rfl)
    · by_cases hs : s = f.name
      · rw [hs, up_same, hx]
      · rw [up_other hs]
  · rcases mem_upd.1 ha with ⟨ha, hn⟩ | ⟨a0, ha0, hn, rfl⟩
    · rw [up_other hn]
      exact (h.file a ha).kept fun b hb => hag b (olt a ha b hb) (h.apart a ha f hf hn b hb)
    · obtain rfl := sorted_inj h.ok.sorted ha0 hf hn
      rw [hg _ rfl, up_same]
      exact hfile
  · have key : ∀ a ∈ upd K.L f.name g, a.name = f.name ∨ (a ∈ K.L ∧ a.name ≠ f.name) := fun a ha => by
      rcases mem_upd.1 ha with h1 | ⟨a0, ha0, hn, rfl⟩
      · exact .inr h1
      · exact .inl (hg _ hn)
    rcases key a ha with h1 | ⟨h1, h1'⟩ <;> rcases key c hc with h2 | ⟨h2, h2'⟩
    · exact hne (h1.trans h2.symm)
    · rw [h1, up_same] at hb
      rw [up_other h2'] at hb'
      rcases hof b hb with h3 | h3
      · exact h.apart c h2 f hf h2' b hb' h3
      · have := olt c h2 b hb'; omega
    · rw [h2, up_same] at hb'
      rw [up_other h1'] at hb
      rcases hof b hb' with h3 | h3
      · exact h.apart a h1 f hf h1' b hb h3
      · have := olt a h1 b hb; omega
    · rw [up_other h1'] at hb
      rw [up_other h2'] at hb'
      exact h.apart a h1 c h2 hne b hb hb'
/-- a file more -/
theorem Lay.more (h : Lay W B d K φ mv) {f : Fl} (hn : Dk.has K.L f.name = false) {x : Nat × Value} (hfile : FileAt W' B x f) (hx : ∀ a ∈ K.L, ∀ b, Of (φ a.name) b → ¬ Of x b) {mv' : Value}
    (hag : ∀ b, b < W.heap.size → b ≠ d → mv ≠ .map (some b) → W'.heap[b]? = W.heap[b]?) (hok : Ok { K with L := ins K.L f })
    (hbox : W'.heap[d]? = some (.cells #[mv', .bool K.room.isSome, .int .i64 ((K.room.getD 0 : Nat) : Int), .bool K.dead] 65 (0, 0)))
    (hmap : MapAt W' B mv' (ins K.L f) (up φ f.name x)) : Lay W' B d { K with L := ins K.L f } (up φ f.name x) mv' := by
  have hn' : ∀ a ∈ K.L, a.name ≠ f.name := has_false.1 hn
  refine ⟨hok, h.base, hbox, hmap, fun a ha => ?_, fun a ha c hc hne b hb hb' => ?_⟩
  · rcases mem_ins.1 ha with rfl | ha
    · rw [up_same]; exact hfile
    · rw [up_other (hn' a ha)]
      refine (h.file a ha).kept fun b hb => hag b ?_ (h.file_d ha hb) (fun e => h.file_m ha hb e rfl)
      obtain ⟨_, cs, T, h2, _⟩ := (h.file a ha).of hb
      exact heap_lt h2
  · rcases mem_ins.1 ha with e1 | ha <;> rcases mem_ins.1 hc with e2 | hc
    · exact hne (by rw [e1, e2])
    · rw [e1, up_same] at hb
      rw [up_other (hn' c hc)] at hb'
      exact hx c hc b hb' hb
    · rw [e2, up_same] at hb'
      rw [up_other (hn' a ha)] at hb
      exact hx a ha b hb hb'
    · rw [up_other (hn' a ha)] at hb
      rw [up_other (hn' c hc)] at hb'
      exact h.apart a ha c hc hne b hb hb'
/-- a file less -/
theorem Lay.less (h : Lay W B d K φ mv) (s : Str) (hok : Ok { K with L := del K.L s }) (hag : ∀ b, b < W.heap.size → mv ≠ .map (some b) → W'.heap[b]? = W.heap[b]?) (hmap : MapAt W' B mv (del K.L s) φ) : Lay W' B d { K with L := del K.L s } φ mv := by
  refine ⟨hok, h.base, (hag d h.lt (fun e => h.d_m e rfl)).trans h.box, hmap, fun a ha => ?_, fun a ha c hc => h.apart a (mem_del.1 ha).1 c (mem_del.1 hc).1⟩
  have ha' := (mem_del.1 ha).1
  refine (h.file a ha').kept fun b hb => hag b ?_ (fun e => h.file_m ha' hb e rfl)
  obtain ⟨_, cs, T, h2, _⟩ := (h.file a ha').of hb
  exact heap_lt h2
end
theorem DiskAt.kp {W W' : World} {B d : Nat} {K : St} (h : DiskAt W B d K) (hk : Kp isDsk W W') : DiskAt W' B d K := let ⟨φ, mv, h⟩ := h; ⟨φ, mv, h.kp hk⟩
theorem DiskAt.below {W W' : World} {B d : Nat} {K : St} (h : DiskAt W B d K) (hk : Below W.heap.size W W') : DiskAt W' B d K := h.kp (Kp.below hk)
theorem DiskAt.ok {W : World} {B d : Nat} {K : St} (h : DiskAt W B d K) : Ok K := let ⟨_, _, h⟩ := h; h.ok
theorem DiskAt.mono {W : World} {B B' d : Nat} {K : St} (h : DiskAt W B d K) (hB : B' ≤ B) : DiskAt W B' d K := by
  obtain ⟨φ, mv, h⟩ := h
  exact ⟨φ, mv, h.ok, Nat.le_trans hB h.base, h.box, h.map.imp id fun ⟨m, D, a, b, c⟩ => ⟨m, D, a, Nat.le_trans hB b, c⟩, fun f hf => (h.file f hf).mono hB, h.apart⟩
end Go.Proofs.YtpafialojcidnaaGreatDoor
