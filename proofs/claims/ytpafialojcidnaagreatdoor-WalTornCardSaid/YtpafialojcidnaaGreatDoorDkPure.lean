/- A disk as the chapter tells it: files by rising names, each with what is sure and what is not; how many bytes it still takes; whether it is dead. Over lists; nothing of the program. -/
namespace Go.Proofs.YtpafialojcidnaaGreatDoor
namespace Dk
abbrev Str := List UInt8

structure Fl where
  name : Str
  sure : Str
  loose : Str

structure St where
  L : List Fl
  room : Option Nat
  dead : Bool

def Fl.all (f : Fl) : Str := f.sure ++ f.loose

/-! ### names rise -/
theorem slt_irrefl (a : Str) : ¬ a < a := List.lt_irrefl a
theorem slt_trans {a b c : Str} (h : a < b) (k : b < c) : a < c := List.lt_trans h k
theorem slt_ne {a b : Str} (h : a < b) : a ≠ b := fun e => slt_irrefl b (e ▸ h)
theorem slt_total {a b : Str} (h : ¬ a < b) (hne : a ≠ b) : b < a := by
  have h1 : b ≤ a := List.not_lt.1 h
  rcases Classical.em (b < a) with h2 | h2
  · exact h2
  · exact absurd (List.le_antisymm (List.not_lt.1 h2) h1) hne

def Sorted (L : List Fl) : Prop := L.Pairwise fun a b => a.name < b.name
def has (L : List Fl) (s : Str) : Bool := L.any fun f => f.name == s
def look (L : List Fl) (s : Str) : Option Fl := L.find? fun f => f.name == s
def upd (L : List Fl) (s : Str) (g : Fl → Fl) : List Fl := L.map fun f => if f.name = s then g f else f
def del (L : List Fl) (s : Str) : List Fl := L.filter fun f => !(f.name == s)
def ins : List Fl → Fl → List Fl
  | [], x => [x]
  | f :: L, x => if f.name < x.name then f :: ins L x else x :: f :: L

theorem has_iff {L : List Fl} {s : Str} : has L s = true ↔ ∃ f ∈ L, f.name = s := by
  simp [has, List.any_eq_true]
theorem has_false {L : List Fl} {s : Str} : has L s = false ↔ ∀ f ∈ L, f.name ≠ s := by
  simp [has]
theorem has_mem {L : List Fl} {f : Fl} (h : f ∈ L) : has L f.name = true := has_iff.2 ⟨f, h, rfl⟩
theorem look_some {L : List Fl} {s : Str} {f : Fl} (h : look L s = some f) : f ∈ L ∧ f.name = s :=
  ⟨List.mem_of_find?_eq_some h, by have := List.find?_some h; simpa using this⟩
theorem look_none {L : List Fl} {s : Str} : look L s = none ↔ has L s = false := by
  simp [look, has]
theorem look_has {L : List Fl} {s : Str} (h : has L s = true) : ∃ f, look L s = some f := by
  cases hl : look L s with
  | some f => exact ⟨f, rfl⟩
  | none => rw [look_none] at hl; rw [h] at hl; cases hl
theorem sorted_inj {L : List Fl} (h : Sorted L) {f g : Fl} (hf : f ∈ L) (hg : g ∈ L) (he : f.name = g.name) : f = g := by
  induction L with
  | nil => cases hf
  | cons a L ih =>
    obtain ⟨h1, h2⟩ := List.pairwise_cons.1 h
    rcases List.mem_cons.1 hf with rfl | hf' <;> rcases List.mem_cons.1 hg with rfl | hg'
    · rfl
    · exact absurd he (slt_ne (h1 g hg'))
    · exact absurd he.symm (slt_ne (h1 f hf'))
    · exact ih h2 hf' hg'
theorem look_mem {L : List Fl} (h : Sorted L) {f : Fl} (hf : f ∈ L) : look L f.name = some f := by
  obtain ⟨g, hg⟩ := look_has (has_mem hf)
  obtain ⟨h1, h2⟩ := look_some hg
  rw [hg, sorted_inj h h1 hf h2]

theorem mem_upd {L : List Fl} {s : Str} {g : Fl → Fl} {f : Fl} : f ∈ upd L s g ↔ (f ∈ L ∧ f.name ≠ s) ∨ ∃ f0 ∈ L, f0.name = s ∧ f = g f0 := by
  unfold upd
  rw [List.mem_map]
  constructor
  · rintro ⟨a, ha, rfl⟩
    split
    · rename_i h; exact .inr ⟨a, ha, h, rfl⟩
    · rename_i h; exact .inl ⟨ha, h⟩
  · rintro (⟨h1, h2⟩ | ⟨a, ha, h1, rfl⟩)
    · exact ⟨f, h1, if_neg h2⟩
    · exact ⟨a, ha, if_pos h1⟩
theorem upd_len (L : List Fl) (s : Str) (g : Fl → Fl) : (upd L s g).length = L.length := List.length_map _
theorem upd_names {L : List Fl} {s : Str} {g : Fl → Fl} (hg : ∀ f, f.name = s → (g f).name = s) : (upd L s g).map (·.name) = L.map (·.name) := by
  unfold upd
  rw [List.map_map]
  refine List.map_congr_left fun f _ => ?_
  show (if f.name = s then g f else f).name = f.name
  split
  · rename_i h; rw [hg f h, h]
  · rfl
theorem sorted_names {L L' : List Fl} (h : Sorted L) (he : L'.map (·.name) = L.map (·.name)) : Sorted L' := by
  have h1 : (L.map (·.name)).Pairwise (· < ·) := List.pairwise_map.2 h
  rw [← he] at h1
  exact List.pairwise_map.1 h1
theorem has_names {L L' : List Fl} (he : L'.map (·.name) = L.map (·.name)) (s : Str) : has L' s = has L s := by
  have e : ∀ M : List Fl, has M s = (M.map (·.name)).any (· == s) := fun M => by unfold has; rw [List.any_map]; rfl
  rw [e, e, he]
theorem upd_sorted {L : List Fl} (h : Sorted L) {s : Str} {g : Fl → Fl} (hg : ∀ f, f.name = s → (g f).name = s) : Sorted (upd L s g) := sorted_names h (upd_names hg)
theorem upd_has {L : List Fl} {s : Str} {g : Fl → Fl} (hg : ∀ f, f.name = s → (g f).name = s) (t : Str) : has (upd L s g) t = has L t := has_names (upd_names hg) t

theorem mem_del {L : List Fl} {s : Str} {f : Fl} : f ∈ del L s ↔ f ∈ L ∧ f.name ≠ s := by simp [del]
theorem del_sorted {L : List Fl} (h : Sorted L) (s : Str) : Sorted (del L s) := List.Pairwise.filter _ h
theorem del_miss {L : List Fl} {s : Str} (h : ∀ f ∈ L, f.name ≠ s) : del L s = L := by
  unfold del
  rw [List.filter_eq_self]
  intro f hf
  simp [h f hf]
theorem del_len {L : List Fl} (h : Sorted L) {s : Str} (hs : has L s = true) : (del L s).length + 1 = L.length := by
  induction L with
  | nil => cases hs
  | cons a L ih =>
    obtain ⟨h1, h2⟩ := List.pairwise_cons.1 h
    by_cases ha : a.name = s
    · have hm : ∀ f ∈ L, f.name ≠ s := fun f hf e => slt_ne (h1 f hf) (ha.trans e.symm)
      have : del (a :: L) s = L := by
        unfold del
        rw [List.filter_cons_of_neg (by simp [ha])]
        exact del_miss hm
      rw [this]; rfl
    · have hs' : has L s = true := by
        simpa [has, ha] using hs
      have : del (a :: L) s = a :: del L s := by
        unfold del
        rw [List.filter_cons_of_pos (by simp [ha])]
      rw [this, List.length_cons, List.length_cons, ih h2 hs']
theorem del_has (L : List Fl) (s t : Str) : has (del L s) t = (has L t && !(t == s)) := by
  rw [Bool.eq_iff_iff, Bool.and_eq_true, has_iff, has_iff]
  constructor
  · rintro ⟨f, hf, rfl⟩
    obtain ⟨h1, h2⟩ := mem_del.1 hf
    exact ⟨⟨f, h1, rfl⟩, by simpa using h2⟩
  · rintro ⟨⟨f, hf, rfl⟩, h2⟩
    exact ⟨f, mem_del.2 ⟨hf, by simpa using h2⟩, rfl⟩

theorem mem_ins {L : List Fl} {x f : Fl} : f ∈ ins L x ↔ f = x ∨ f ∈ L := by
  induction L with
  | nil => simp [ins]
  | cons a L ih =>
    unfold ins
    split
    · simp only [List.mem_cons, ih]
      constructor
      · rintro (h | h | h)
        · exact .inr (.inl h)
        · exact .inl h
        · exact .inr (.inr h)
      · rintro (h | h | h)
        · exact .inr (.inl h)
        · exact .inl h
        · exact .inr (.inr h)
    · simp [List.mem_cons]
theorem ins_len (L : List Fl) (x : Fl) : (ins L x).length = L.length + 1 := by
  induction L with
  | nil => rfl
  | cons a L ih =>
    unfold ins
    split
    · simp [ih]
    · rfl
theorem ins_sorted {L : List Fl} (h : Sorted L) {x : Fl} (hx : has L x.name = false) : Sorted (ins L x) := by
  induction L with
  | nil => exact List.pairwise_singleton _ _
  | cons a L ih =>
    obtain ⟨h1, h2⟩ := List.pairwise_cons.1 h
    rw [has_false] at hx
    unfold ins
    split
    · rename_i hlt
      refine List.pairwise_cons.2 ⟨fun f hf => ?_, ih h2 (has_false.2 fun f hf => hx f (List.mem_cons_of_mem _ hf))⟩
      rcases mem_ins.1 hf with rfl | hf
      · exact hlt
      · exact h1 f hf
    · rename_i hlt
      have hxa : x.name < a.name := slt_total hlt (hx a (List.mem_cons_self ..))
      refine List.pairwise_cons.2 ⟨fun f hf => ?_, h⟩
      rcases List.mem_cons.1 hf with rfl | hf
      · exact hxa
      · exact slt_trans hxa (h1 f hf)
theorem ins_has (L : List Fl) (x : Fl) (t : Str) : has (ins L x) t = (has L t || (t == x.name)) := by
  rw [Bool.eq_iff_iff, Bool.or_eq_true, has_iff, has_iff]
  constructor
  · rintro ⟨f, hf, rfl⟩
    rcases mem_ins.1 hf with rfl | hf
    · exact .inr (by simp)
    · exact .inl ⟨f, hf, rfl⟩
  · rintro (⟨f, hf, rfl⟩ | h)
    · exact ⟨f, mem_ins.2 (.inr hf), rfl⟩
    · exact ⟨x, mem_ins.2 (.inl rfl), by simpa using (by simpa using h : t = x.name).symm⟩
/-- as the document puts a file: behind those that are below it -/
theorem ins_at {L : List Fl} {x : Fl} {i : Nat} (hi : i ≤ L.length) (hb : ∀ j (h : j < L.length), j < i → L[j].name < x.name) (ha : ∀ h : i < L.length, ¬ L[i].name < x.name) : ins L x = L.take i ++ x :: L.drop i := by
  induction L generalizing i with
  | nil =>
    have : i = 0 := by simpa using hi
    subst this; rfl
  | cons a L ih =>
    cases i with
    | zero =>
      have := ha (by simp)
      unfold ins
      rw [if_neg (by exact this)]
      rfl
    | succ i =>
      have h0 := hb 0 (by simp) (by omega)
      unfold ins
      rw [if_pos (by exact h0), ih (by simpa using hi) (fun j h hj => hb (j + 1) (by rw [List.length_cons]; omega) (by omega)) (fun h => ha (by rw [List.length_cons]; omega))]
      rfl
/-- two lists of files that rise and have the same files are one -/
theorem sorted_ext {L M : List Fl} (h : Sorted L) (k : Sorted M) (hm : ∀ f, f ∈ L ↔ f ∈ M) : L = M := by
  have nd : ∀ {L : List Fl}, Sorted L → L.Nodup := fun {L} h => List.Pairwise.imp (R := fun a b : Fl => a.name < b.name) (fun {a b} hl (e : a = b) => slt_irrefl b.name (by rw [e] at hl; exact hl)) h
  exact List.Perm.eq_of_pairwise (le := fun a b : Fl => a.name < b.name) (fun a b _ _ h1 h2 => absurd (slt_trans h1 h2) (slt_irrefl _)) h k ((List.perm_ext_iff_of_nodup (nd h) (nd k)).2 hm)

/-! ### the deeds -/
def bad (s : Str) : Bool := decide (s.length < 1) || decide (32 < s.length)
/-- of who tells something -/
def err0 (K : St) (s : Str) : Nat := if bad s then 1 else if has K.L s then 0 else 6
/-- of who changes something -/
def err (K : St) (s : Str) : Nat := if bad s then 1 else if K.dead then 12 else if has K.L s then 0 else 6
/-- as much of a text as is taken -/
def fits (r : Option Nat) (s : Str) : Str := match r with
  | none => s
  | some n => s.take n
/-- the disk behind it, its files aside -/
def pay (K : St) (s : Str) : St := { K with room := K.room.map fun n => n - (fits K.room s).length, dead := decide ((fits K.room s).length < s.length) }
def append (K : St) (s t : Str) : St × Nat :=
  if bad s then (K, 1) else if K.dead then (K, 12) else
  match look K.L s with
  | none => if 64 ≤ K.L.length ∨ 4194304 < t.length then (K, 8) else ({ pay K t with L := ins K.L ⟨s, [], fits K.room t⟩ }, if (pay K t).dead then 12 else 0)
  | some f => if 4194304 < f.all.length + t.length then (K, 8) else ({ pay K t with L := upd K.L s fun f => { f with loose := f.loose ++ fits K.room t } }, if (pay K t).dead then 12 else 0)
def sync (K : St) (s : Str) : St × Nat := (if err K s = 0 then { K with L := upd K.L s fun f => ⟨f.name, f.all, []⟩ } else K, err K s)
def read (K : St) (s : Str) : Str × Nat := if err0 K s = 0 then (((look K.L s).map (·.all)).getD [], 0) else ([], err0 K s)
def size (K : St) (s : Str) : Nat × Nat × Nat := if err0 K s = 0 then (((look K.L s).map (·.all.length)).getD 0, ((look K.L s).map (·.sure.length)).getD 0, 0) else (0, 0, err0 K s)
def cutAt (n : Nat) (f : Fl) : Fl := if n ≤ f.sure.length then ⟨f.name, f.sure.take n, []⟩ else ⟨f.name, f.sure, f.loose.take (n - f.sure.length)⟩
def trunc (K : St) (s : Str) (n : Int) : St × Nat :=
  if err K s ≠ 0 then (K, err K s) else if n < 0 ∨ (((look K.L s).map (·.all.length)).getD 0 : Int) < n then (K, 5) else ({ K with L := upd K.L s (cutAt n.toNat) }, 0)
def rename (K : St) (s t : Str) : St × Nat :=
  if err K s ≠ 0 then (K, err K s) else if bad t then (K, 1) else if has K.L t then (K, 7) else
  ({ K with L := match look K.L s with | some f => ins (del K.L s) { f with name := t } | none => K.L }, 0)
def remove (K : St) (s : Str) : St × Nat := (if err K s = 0 then { K with L := del K.L s } else K, err K s)
def cut (K : St) (n : Int) : St := if K.dead then K else { K with room := some n.toNat }
def kept (n : Int) (f : Fl) : Fl := ⟨f.name, f.sure ++ f.loose.take n.toNat, []⟩
def crash (K : St) (n : Int) : St := ⟨K.L.map (kept n), none, false⟩
def new : St := ⟨[], none, false⟩

/-- what every disk is -/
structure Ok (K : St) : Prop where
  sorted : Sorted K.L
  names : ∀ f ∈ K.L, bad f.name = false
  room : ∀ n, K.room = some n → n ≤ 9223372036854775807
  few : K.L.length ≤ 64
  small : ∀ f ∈ K.L, f.all.length ≤ 4194304

theorem bad_iff {s : Str} : bad s = false ↔ 1 ≤ s.length ∧ s.length ≤ 32 := by
  rw [bad, Bool.or_eq_false_iff, decide_eq_false_iff_not, decide_eq_false_iff_not]; omega
theorem fits_len (r : Option Nat) (s : Str) : (fits r s).length ≤ s.length := by
  unfold fits
  split
  · exact Nat.le_refl _
  · rw [List.length_take]; omega
theorem all_upd {L : List Fl} (h : Sorted L) {s : Str} {f : Fl} (hl : look L s = some f) {g g' : Fl → Fl} (he : g f = g' f) : upd L s g = upd L s g' := by
  unfold upd
  refine List.map_congr_left fun a ha => ?_
  split
  · rename_i hn
    obtain ⟨h1, h2⟩ := look_some hl
    rw [sorted_inj h ha h1 (hn.trans h2.symm), he]
  · rfl

theorem ok_new : Ok new := ⟨List.Pairwise.nil, fun _ h => (by cases h), fun _ h => (by cases h), by decide, fun _ h => (by cases h)⟩
theorem pay_room {K : St} (h : Ok K) (t : Str) : ∀ n, (pay K t).room = some n → n ≤ 9223372036854775807 := by
  intro n hn
  unfold pay at hn
  cases hr : K.room with
  | none => rw [hr] at hn; cases hn
  | some m =>
    have := h.room m hr
    rw [hr] at hn
    simp only [Option.map_some, Option.some.injEq] at hn
    omega
theorem ok_append {K : St} (h : Ok K) (s t : Str) : Ok (append K s t).1 := by
  unfold append
  split
  · exact h
  · rename_i hb
    have hb' : bad s = false := by simpa using hb
    split
    · exact h
    · split
      · rename_i hl
        split
        · exact h
        · rename_i hc
          have hn := look_none.1 hl
          refine ⟨ins_sorted h.sorted hn, fun f hf => ?_, pay_room h t, ?_, fun f hf => ?_⟩
          · rcases mem_ins.1 hf with rfl | hf
            · exact hb'
            · exact h.names f hf
          · show (ins K.L _).length ≤ 64
            rw [ins_len]; omega
          · rcases mem_ins.1 hf with rfl | hf
            · have := fits_len K.room t
              simp only [Fl.all, List.nil_append]
              omega
            · exact h.small f hf
      · rename_i f0 hl
        split
        · exact h
        · rename_i hc
          obtain ⟨hm, hnm⟩ := look_some hl
          refine ⟨upd_sorted h.sorted (fun _ e => e), fun f hf => ?_, pay_room h t, ?_, fun f hf => ?_⟩
          · rcases mem_upd.1 hf with ⟨hf, _⟩ | ⟨f1, hf1, hn1, rfl⟩
            · exact h.names f hf
            · exact h.names f1 hf1
          · show (upd K.L s _).length ≤ 64
            rw [upd_len]; exact h.few
          · rcases mem_upd.1 hf with ⟨hf, _⟩ | ⟨f1, hf1, hn1, rfl⟩
            · exact h.small f hf
            · obtain rfl := sorted_inj h.sorted hf1 hm (hn1.trans hnm.symm)
              have := fits_len K.room t
              simp only [Fl.all, List.length_append] at *
              omega
theorem ok_upd {K : St} (h : Ok K) {s : Str} {g : Fl → Fl} (hn : ∀ f, (g f).name = f.name) (hl : ∀ f, (g f).all.length ≤ f.all.length) : Ok { K with L := upd K.L s g } := by
  refine ⟨upd_sorted h.sorted (fun f e => (hn f).trans e), fun f hf => ?_, h.room, ?_, fun f hf => ?_⟩
  · rcases mem_upd.1 hf with ⟨hf, _⟩ | ⟨f1, hf1, _, rfl⟩
    · exact h.names f hf
    · rw [hn]; exact h.names f1 hf1
  · show (upd K.L s _).length ≤ 64
    rw [upd_len]; exact h.few
  · rcases mem_upd.1 hf with ⟨hf, _⟩ | ⟨f1, hf1, _, rfl⟩
    · exact h.small f hf
    · exact Nat.le_trans (hl f1) (h.small f1 hf1)
theorem ok_sync {K : St} (h : Ok K) (s : Str) : Ok (sync K s).1 := by
  unfold sync
  dsimp only
  split
  · exact ok_upd h (fun _ => rfl) (fun f => by simp [Fl.all])
  · exact h
theorem cutAt_all (n : Nat) (f : Fl) : (cutAt n f).all = f.all.take n := by
  unfold cutAt Fl.all
  split
  · rename_i h
    rw [List.append_nil, List.take_append_of_le_length h]
  · rename_i h
    rw [List.take_append, List.take_of_length_le (l := f.sure) (by omega)]
theorem cutAt_sure (n : Nat) (f : Fl) : (cutAt n f).sure = f.sure.take n := by
  unfold cutAt
  split
  · rfl
  · rename_i h
    rw [List.take_of_length_le (l := f.sure) (by omega)]
theorem cutAt_name (n : Nat) (f : Fl) : (cutAt n f).name = f.name := by
  unfold cutAt; split <;> rfl
theorem ok_trunc {K : St} (h : Ok K) (s : Str) (n : Int) : Ok (trunc K s n).1 := by
  unfold trunc
  split
  · exact h
  · split
    · exact h
    · exact ok_upd h (cutAt_name _) (fun f => by rw [cutAt_all, List.length_take]; omega)
theorem ok_del {K : St} (h : Ok K) (s : Str) : Ok { K with L := del K.L s } :=
  ⟨del_sorted h.sorted s, fun f hf => h.names f (mem_del.1 hf).1, h.room, Nat.le_trans (List.length_filter_le _ _) h.few, fun f hf => h.small f (mem_del.1 hf).1⟩
theorem ok_remove {K : St} (h : Ok K) (s : Str) : Ok (remove K s).1 := by
  unfold remove
  dsimp only
  split
  · exact ok_del h s
  · exact h
theorem ok_rename {K : St} (h : Ok K) (s t : Str) : Ok (rename K s t).1 := by
  unfold rename
  split
  · exact h
  · split
    · exact h
    · rename_i hb
      split
      · exact h
      · rename_i ht
        cases hl : look K.L s with
        | none => exact h
        | some f =>
          obtain ⟨hm, hn⟩ := look_some hl
          have hd := ok_del h s
          have hs := del_len h.sorted (hn ▸ has_mem hm : has K.L s = true)
          refine ⟨ins_sorted hd.sorted (by rw [del_has]; simp at ht; simp [ht]), fun a ha => ?_, h.room, ?_, fun a ha => ?_⟩
          · rcases mem_ins.1 ha with rfl | ha
            · simpa using hb
            · exact hd.names a ha
          · show (ins _ _).length ≤ 64
            rw [ins_len]
            have := h.few
            omega
          · rcases mem_ins.1 ha with rfl | ha
            · exact h.small f hm
            · exact hd.small a ha
theorem ok_cut {K : St} (h : Ok K) (n : Int) (hn : n ≤ 9223372036854775807) : Ok (cut K n) := by
  unfold cut
  split
  · exact h
  · exact ⟨h.sorted, h.names, fun m hm => by simp only [Option.some.injEq] at hm; omega, h.few, h.small⟩
theorem kept_names (L : List Fl) (n : Int) : (L.map (kept n)).map (·.name) = L.map (·.name) := by
  rw [List.map_map]; rfl
theorem ok_crash {K : St} (h : Ok K) (n : Int) : Ok (crash K n) := by
  refine ⟨sorted_names h.sorted (kept_names _ n), fun f hf => ?_, fun _ e => (by cases e), ?_, fun f hf => ?_⟩
  · obtain ⟨a, ha, rfl⟩ := List.mem_map.1 hf
    exact h.names a ha
  · show (K.L.map _).length ≤ 64
    rw [List.length_map]; exact h.few
  · obtain ⟨a, ha, rfl⟩ := List.mem_map.1 hf
    have := h.small a ha
    simp only [kept, Fl.all, List.append_nil, List.length_append, List.length_take] at *
    omega
theorem append_some {K : St} {s t : Str} {f : Fl} (hb : bad s = false) (hd : K.dead = false) (hl : look K.L s = some f) :
    append K s t = if 4194304 < f.all.length + t.length then (K, 8) else ({ pay K t with L := upd K.L s fun f => { f with loose := f.loose ++ fits K.room t } }, if (pay K t).dead then 12 else 0) := by
  simp [append, hb, hd, hl]
theorem append_none {K : St} {s t : Str} (hb : bad s = false) (hd : K.dead = false) (hl : look K.L s = none) :
    append K s t = if 64 ≤ K.L.length ∨ 4194304 < t.length then (K, 8) else ({ pay K t with L := ins K.L ⟨s, [], fits K.room t⟩ }, if (pay K t).dead then 12 else 0) := by
  simp [append, hb, hd, hl]
theorem err_look {K : St} {s : Str} (h : err K s = 0) : bad s = false ∧ K.dead = false ∧ ∃ f, look K.L s = some f ∧ f ∈ K.L ∧ f.name = s := by
  cases hb : bad s <;> cases hd : K.dead <;> cases hh : has K.L s <;> simp [err, hb, hd, hh] at h
  obtain ⟨f, hf⟩ := look_has hh
  exact ⟨rfl, rfl, f, hf, look_some hf⟩
theorem err_none {K : St} {s : Str} (h : err K s = 6) : bad s = false ∧ K.dead = false ∧ has K.L s = false := by
  cases hb : bad s <;> cases hd : K.dead <;> cases hh : has K.L s <;> simp [err, hb, hd, hh] at h
  exact ⟨rfl, rfl, rfl⟩
theorem err_of (K : St) (s : Str) : err K s = 0 ∨ err K s = 1 ∨ err K s = 6 ∨ err K s = 12 := by
  cases hb : bad s <;> cases hd : K.dead <;> cases hh : has K.L s <;> simp [err, hb, hd, hh]
theorem append_err {K : St} {s t : Str} (h0 : err K s ≠ 0) (h6 : err K s ≠ 6) : append K s t = (K, err K s) := by
  cases hb : bad s <;> cases hd : K.dead <;> cases hh : has K.L s <;> simp [err, hb, hd, hh] at h0 h6 <;> simp [append, err, hb, hd]
theorem err0_look {K : St} {s : Str} (h : err0 K s = 0) : bad s = false ∧ ∃ f, look K.L s = some f ∧ f ∈ K.L ∧ f.name = s := by
  cases hb : bad s <;> cases hh : has K.L s <;> simp [err0, hb, hh] at h
  obtain ⟨f, hf⟩ := look_has hh
  exact ⟨rfl, f, hf, look_some hf⟩
theorem err0_of (K : St) (s : Str) : err0 K s = 0 ∨ err0 K s = 1 ∨ err0 K s = 6 := by
  cases hb : bad s <;> cases hh : has K.L s <;> simp [err0, hb, hh]
end Dk
end Go.Proofs.YtpafialojcidnaaGreatDoor
