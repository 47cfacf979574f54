/- A log in segments, over lists: a segment's name, what a disk of segments is, what its deeds make of it. Nothing of the program. -/
import Derived.Test.YtpafialojcidnaaGreatDoorDkPure
import Derived.Test.YtpafialojcidnaaGreatDoorFrPure2
namespace Go.Proofs.YtpafialojcidnaaGreatDoor
set_option linter.unusedVariables false
namespace Wl
open Dk

/-! ### a segment's name -/
/-- a number in so many digits -/
def dg : Nat → Nat → Str
  | 0, _ => []
  | k + 1, n => dg k (n / 10) ++ [UInt8.ofNat (48 + n % 10)]
theorem dg_len : ∀ k n, (dg k n).length = k
  | 0, _ => rfl
  | k + 1, n => by simp [dg, dg_len k]
def file (nm : Str) (n : Nat) : Str := nm ++ 46 :: dg 8 n
theorem file_len (nm : Str) (n : Nat) : (file nm n).length = nm.length + 9 := by simp [file, dg_len]
theorem lt_app (p : Str) {a b : Str} (h : a < b) : p ++ a < p ++ b := List.append_left_lt h
theorem lt_same : ∀ {a b : Str}, a.length = b.length → a < b → ∀ u v : Str, a ++ u < b ++ v
  | [], [], _, h, _, _ => absurd h (List.lt_irrefl _)
  | [], _ :: _, hl, _, _, _ => by simp at hl
  | _ :: _, [], hl, _, _, _ => by simp at hl
  | x :: a, y :: b, hl, h, u, v => by
    rw [List.cons_lt_cons_iff] at h
    rw [List.cons_append, List.cons_append, List.cons_lt_cons_iff]
    rcases h with h | ⟨h1, h2⟩
    · exact .inl h
    · exact .inr ⟨h1, lt_same (by simpa using hl) h2 u v⟩
theorem dig_toNat (n : Nat) : (UInt8.ofNat (48 + n % 10)).toNat = 48 + n % 10 := by rw [UInt8.toNat_ofNat']; omega
theorem dig_lt {a b : Nat} (h : a % 10 < b % 10) : UInt8.ofNat (48 + a % 10) < UInt8.ofNat (48 + b % 10) := by
  rw [UInt8.lt_iff_toNat_lt, dig_toNat, dig_toNat]; omega
theorem dg_lt : ∀ (k a b : Nat), a < b → b < 10 ^ k → dg k a < dg k b
  | 0, a, b, h, hb => by simp at hb; omega
  | k + 1, a, b, h, hb => by
    have hb' : b / 10 < 10 ^ k := by rw [Nat.pow_succ] at hb; omega
    by_cases hd : a / 10 < b / 10
    · exact lt_same (by rw [dg_len, dg_len]) (dg_lt k _ _ hd hb') _ _
    · have he : a / 10 = b / 10 := by omega
      have hm : a % 10 < b % 10 := by omega
      unfold dg
      rw [he]
      exact lt_app _ (List.cons_lt_cons_iff.2 (.inl (dig_lt hm)))
theorem file_lt (nm : Str) {a b : Nat} (h : a < b) (hb : b < 100000000) : file nm a < file nm b :=
  lt_app nm (List.cons_lt_cons_iff.2 (.inr ⟨rfl, dg_lt 8 a b h hb⟩))
theorem file_bad {nm : Str} (n : Nat) (h : nm.length ≤ 16) : Dk.bad (file nm n) = false := bad_iff.2 (by rw [file_len]; omega)

/-- which number a name tells -/
def isDig (c : UInt8) : Bool := decide (48 ≤ c.toNat) && decide (c.toNat ≤ 57)
def val (s : Str) : Nat := s.foldl (fun a c => 10 * a + (c.toNat - 48)) 0
def num (nm f : Str) : Option Nat := if f.take (nm.length + 1) = nm ++ [46] ∧ f.length = nm.length + 9 ∧ (f.drop (nm.length + 1)).all isDig = true then some (val (f.drop (nm.length + 1))) else none
theorem val_snoc (s : Str) (c : UInt8) : val (s ++ [c]) = 10 * val s + (c.toNat - 48) := by simp [val, List.foldl_append]
theorem val_dg : ∀ (k n : Nat), n < 10 ^ k → val (dg k n) = n
  | 0, n, h => by simp at h; subst h; rfl
  | k + 1, n, h => by
    rw [dg, val_snoc, val_dg k (n / 10) (by rw [Nat.pow_succ] at h; omega), dig_toNat]
    omega
theorem dg_dig : ∀ (k n : Nat), (dg k n).all isDig = true
  | 0, _ => rfl
  | k + 1, n => by
    rw [dg, List.all_append, dg_dig k]
    simp only [List.all_cons, List.all_nil, Bool.and_true, Bool.true_and, isDig, dig_toNat, Bool.and_eq_true, decide_eq_true_eq]
    omega
theorem file_drop (nm : Str) (n : Nat) : (file nm n).drop (nm.length + 1) = dg 8 n := by
  unfold file
  rw [List.drop_append, List.drop_eq_nil_of_le (by omega), show nm.length + 1 - nm.length = 1 by omega]; rfl
theorem file_take (nm : Str) (n : Nat) : (file nm n).take (nm.length + 1) = nm ++ [46] := by
  unfold file
  rw [List.take_append, List.take_of_length_le (by omega), show nm.length + 1 - nm.length = 1 by omega]; rfl
theorem num_file (nm : Str) {n : Nat} (h : n < 100000000) : num nm (file nm n) = some n := by
  unfold num
  rw [if_pos ⟨file_take nm n, file_len nm n, by rw [file_drop]; exact dg_dig 8 n⟩, file_drop, val_dg 8 n h]
theorem file_inj {nm : Str} {a b : Nat} (ha : a < 100000000) (hb : b < 100000000) (h : file nm a = file nm b) : a = b := by
  have := num_file nm ha
  rw [h, num_file nm hb] at this
  exact (Option.some.inj this).symm

/-! ### a disk that is awake and takes whatever comes: its names and bytes -/
structure Vw (K : St) (V : List (Str × Str)) : Prop where
  ok : Ok K
  alive : K.dead = false
  room : K.room = none
  view : K.L.map (fun f => (f.name, f.all)) = V
section
variable {K : St} {V A B : List (Str × Str)} {s t x : Str}
theorem Vw.names (h : Vw K V) : K.L.map (·.name) = V.map (·.1) := by
  rw [← h.view, List.map_map]; rfl
theorem Vw.len (h : Vw K V) : K.L.length = V.length := by rw [← h.view, List.length_map]
theorem Vw.sorted (h : Vw K V) : (V.map (·.1)).Pairwise (· < ·) := by
  rw [← h.names]; exact List.pairwise_map.2 h.ok.sorted
theorem Vw.at_ (h : Vw K V) (hV : V = A ++ (s, x) :: B) : ∃ f, Dk.look K.L s = some f ∧ f ∈ K.L ∧ f.name = s ∧ f.all = x := by
  have : (s, x) ∈ K.L.map (fun f => (f.name, f.all)) := by rw [h.view, hV]; simp
  obtain ⟨f, hf, he⟩ := List.mem_map.1 this
  simp only [Prod.mk.injEq] at he
  obtain ⟨rfl, rfl⟩ := he
  exact ⟨f, look_mem h.ok.sorted hf, hf, rfl, rfl⟩
theorem Vw.good (h : Vw K V) (hV : V = A ++ (s, x) :: B) : Dk.bad s = false := by
  obtain ⟨f, _, hf, rfl, _⟩ := h.at_ hV
  exact h.ok.names f hf
theorem Vw.err (h : Vw K V) (hV : V = A ++ (s, x) :: B) : Dk.err K s = 0 := by
  obtain ⟨f, _, hf, hn, _⟩ := h.at_ hV
  have hh : Dk.has K.L s = true := hn ▸ has_mem hf
  simp [Dk.err, h.good hV, h.alive, hh]
theorem Vw.err0 (h : Vw K V) (hV : V = A ++ (s, x) :: B) : Dk.err0 K s = 0 := by
  obtain ⟨f, _, hf, hn, _⟩ := h.at_ hV
  have hh : Dk.has K.L s = true := hn ▸ has_mem hf
  simp [Dk.err0, h.good hV, hh]
/-- what is said of the one name is said there alone -/
theorem only_there {α : Type} {A B : List (Str × α)} {x : α} (h : ((A ++ (s, x) :: B).map (·.1)).Pairwise (· < ·)) (g : Str × α → Str × α) :
    (A ++ (s, x) :: B).map (fun p => if p.1 = s then g p else p) = A ++ g (s, x) :: B := by
  rw [List.map_append, List.map_cons, List.pairwise_append] at h
  obtain ⟨_, h2, h3⟩ := h
  have h4 := (List.pairwise_cons.1 h2).1
  rw [List.map_append, List.map_cons]
  congr 1
  · conv => rhs; rw [← List.map_id A]
    refine List.map_congr_left fun p hp => if_neg fun e => ?_
    exact slt_irrefl s (by have := h3 p.1 (List.mem_map.2 ⟨p, hp, rfl⟩) s (List.mem_cons_self ..); rwa [e] at this)
  · congr 1
    · exact if_pos rfl
    · conv => rhs; rw [← List.map_id B]
      refine List.map_congr_left fun p hp => if_neg fun e => ?_
      exact slt_irrefl s (by have := h4 p.1 (List.mem_map.2 ⟨p, hp, rfl⟩); rwa [e] at this)
theorem view_upd (L : List Fl) (s : Str) (g : Fl → Fl) (q : Str → Str) (hn : ∀ f, (g f).name = f.name) (hg : ∀ f, f ∈ L → f.name = s → (g f).all = q f.all) :
    (Dk.upd L s g).map (fun f => (f.name, f.all)) = (L.map (fun f => (f.name, f.all))).map (fun p => if p.1 = s then (p.1, q p.2) else p) := by
  unfold Dk.upd
  rw [List.map_map, List.map_map]
  refine List.map_congr_left fun f hf => ?_
  show ((if f.name = s then g f else f).name, (if f.name = s then g f else f).all) = if f.name = s then (f.name, q f.all) else (f.name, f.all)
  by_cases h : f.name = s
  · rw [if_pos h, if_pos h, hn, hg f hf h]
  · rw [if_neg h, if_neg h]
theorem vw_upd (h : Vw K V) (hV : V = A ++ (s, x) :: B) {g : Fl → Fl} {q : Str → Str} {K' : St} (hL : K'.L = Dk.upd K.L s g) (hok : Ok K') (hd : K'.dead = false) (hr : K'.room = none) (hn : ∀ f, (g f).name = f.name) (hg : ∀ f, f ∈ K.L → f.name = s → (g f).all = q f.all) :
    Vw K' (A ++ (s, q x) :: B) := by
  refine ⟨hok, hd, hr, ?_⟩
  rw [hL, view_upd K.L s g q hn hg, h.view, hV]
  exact only_there (by rw [← hV]; exact h.sorted) (fun p => (p.1, q p.2))
theorem vw_append (h : Vw K V) (hV : V = A ++ (s, x) :: B) (ht : x.length + t.length ≤ 4194304) : ∃ K', Dk.append K s t = (K', 0) ∧ Vw K' (A ++ (s, x ++ t) :: B) := by
  obtain ⟨f, hl, hf, hn, hx⟩ := h.at_ hV
  have e := append_some (t := t) (h.good hV) h.alive hl
  rw [if_neg (by rw [hx]; omega)] at e
  have hp : (Dk.pay K t).dead = false := by simp [Dk.pay, Dk.fits, h.room]
  rw [hp, if_neg (by decide)] at e
  refine ⟨_, e, vw_upd h hV (g := fun f => { f with loose := f.loose ++ Dk.fits K.room t }) (q := fun y => y ++ t) rfl ?_ hp (by simp [Dk.pay, h.room]) (fun _ => rfl) (fun a _ _ => ?_)⟩
  · have := ok_append h.ok s t
    rw [e] at this
    exact this
  · simp [Fl.all, Dk.fits, h.room]
theorem vw_big (h : Vw K V) (hV : V = A ++ (s, x) :: B) (ht : 4194304 < x.length + t.length) : Dk.append K s t = (K, 8) := by
  obtain ⟨f, hl, hf, hn, hx⟩ := h.at_ hV
  have e := append_some (t := t) (h.good hV) h.alive hl
  rw [if_pos (by rw [hx]; omega)] at e
  exact e
theorem has_view (h : Vw K V) (s : Str) : Dk.has K.L s = V.any (fun p => p.1 == s) := by
  rw [← h.view, List.any_map]; rfl
theorem ins_end : ∀ (L : List Fl) (f : Fl), (∀ a ∈ L, a.name < f.name) → Dk.ins L f = L ++ [f]
  | [], _, _ => rfl
  | a :: L, f, h => by
    rw [Dk.ins, if_pos (h a (List.mem_cons_self ..)), ins_end L f fun b hb => h b (List.mem_cons_of_mem _ hb)]; rfl
theorem vw_more (h : Vw K V) (hs : Dk.bad s = false) (hlt : ∀ p ∈ V, p.1 < s) (hlen : V.length < 64) (ht : t.length ≤ 4194304) : ∃ K', Dk.append K s t = (K', 0) ∧ Vw K' (V ++ [(s, t)]) := by
  have hlt' : ∀ a ∈ K.L, a.name < s := fun a ha => by
    have : (a.name, a.all) ∈ V := by rw [← h.view]; exact List.mem_map.2 ⟨a, ha, rfl⟩
    exact hlt _ this
  have hl : Dk.look K.L s = none := look_none.2 (has_false.2 fun a ha => slt_ne (hlt' a ha))
  have e := append_none (t := t) hs h.alive hl
  rw [if_neg (by rw [h.len]; omega)] at e
  have hp : (Dk.pay K t).dead = false := by simp [Dk.pay, Dk.fits, h.room]
  rw [hp, if_neg (by decide)] at e
  refine ⟨_, e, ?_, hp, by simp [Dk.pay, h.room], ?_⟩
  · have := ok_append h.ok s t
    rw [e] at this
    exact this
  · show (Dk.ins K.L ⟨s, [], Dk.fits K.room t⟩).map _ = _
    rw [ins_end _ _ (by exact hlt'), List.map_append, h.view]
    simp [Fl.all, Dk.fits, h.room]
theorem vw_full (h : Vw K V) (hs : Dk.bad s = false) (hno : ∀ p ∈ V, p.1 ≠ s) (hlen : 64 ≤ V.length) : Dk.append K s t = (K, 8) := by
  have hl : Dk.look K.L s = none := look_none.2 (has_false.2 fun a ha => by
    have : (a.name, a.all) ∈ V := by rw [← h.view]; exact List.mem_map.2 ⟨a, ha, rfl⟩
    exact hno _ this)
  have e := append_none (t := t) hs h.alive hl
  rw [if_pos (.inl (by rw [h.len]; omega))] at e
  exact e
theorem vw_sync (h : Vw K V) (hV : V = A ++ (s, x) :: B) : ∃ K', Dk.sync K s = (K', 0) ∧ Vw K' V := by
  have he := h.err hV
  refine ⟨{ K with L := Dk.upd K.L s fun f => ⟨f.name, f.all, []⟩ }, by simp [Dk.sync, he], ?_⟩
  have := vw_upd h hV (g := fun f => ⟨f.name, f.all, []⟩) (q := id) (K' := { K with L := Dk.upd K.L s fun f => ⟨f.name, f.all, []⟩ }) rfl (by have := ok_sync h.ok s; simpa [Dk.sync, he] using this) h.alive h.room (fun _ => rfl) (fun f _ _ => by simp [Fl.all])
  rw [hV]
  exact this
theorem vw_read (h : Vw K V) (hV : V = A ++ (s, x) :: B) : Dk.read K s = (x, 0) := by
  obtain ⟨f, hl, hf, hn, hx⟩ := h.at_ hV
  simp [Dk.read, h.err0 hV, hl, hx]
theorem vw_size (h : Vw K V) (hV : V = A ++ (s, x) :: B) : ∃ b, Dk.size K s = (x.length, b, 0) := by
  obtain ⟨f, hl, hf, hn, hx⟩ := h.at_ hV
  exact ⟨f.sure.length, by simp [Dk.size, h.err0 hV, hl, hx]⟩
theorem vw_trunc (h : Vw K V) (hV : V = A ++ (s, x) :: B) {n : Nat} (hn : n ≤ x.length) : ∃ K', Dk.trunc K s (n : Int) = (K', 0) ∧ Vw K' (A ++ (s, x.take n) :: B) := by
  obtain ⟨f, hl, hf, hnm, hx⟩ := h.at_ hV
  have e : Dk.trunc K s (n : Int) = ({ K with L := Dk.upd K.L s (cutAt n) }, 0) := by
    unfold Dk.trunc
    rw [if_neg (by rw [h.err hV]; decide), if_neg (by simp [hl, hx]; omega)]
    rfl
  refine ⟨_, e, vw_upd h hV (q := fun y => y.take n) rfl ?_ h.alive h.room (cutAt_name n) (fun a _ _ => cutAt_all n a)⟩
  have := ok_trunc h.ok s (n : Int)
  rw [e] at this
  exact this
theorem vw_remove (h : Vw K V) (hV : V = A ++ (s, x) :: B) : ∃ K', Dk.remove K s = (K', 0) ∧ Vw K' (A ++ B) := by
  have he := h.err hV
  refine ⟨{ K with L := Dk.del K.L s }, by simp [Dk.remove, he], ?_, h.alive, h.room, ?_⟩
  · have := ok_remove h.ok s
    simpa [Dk.remove, he] using this
  · have hs := h.sorted
    have e : (Dk.del K.L s).map (fun f => (f.name, f.all)) = V.filter (fun p => !(p.1 == s)) := by
      rw [← h.view, List.filter_map]; rfl
    show (Dk.del K.L s).map (fun f => (f.name, f.all)) = A ++ B
    rw [e, hV]
    rw [hV, List.map_append, List.map_cons, List.pairwise_append] at hs
    obtain ⟨_, h2, h3⟩ := hs
    have h4 := (List.pairwise_cons.1 h2).1
    rw [List.filter_append, List.filter_cons_of_neg (by simp)]
    congr 1
    · refine List.filter_eq_self.2 fun p hp => ?_
      have := slt_ne (h3 p.1 (List.mem_map.2 ⟨p, hp, rfl⟩) s (List.mem_cons_self ..))
      simpa using this
    · refine List.filter_eq_self.2 fun p hp => ?_
      have := slt_ne (h4 p.1 (List.mem_map.2 ⟨p, hp, rfl⟩))
      simpa using this.symm
end
theorem vw_new : Vw Dk.new [] := ⟨ok_new, rfl, rfl, rfl⟩
end Wl
end Go.Proofs.YtpafialojcidnaaGreatDoor
