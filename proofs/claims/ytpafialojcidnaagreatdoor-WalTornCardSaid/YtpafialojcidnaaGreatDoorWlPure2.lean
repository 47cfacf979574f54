/- A log in segments, over lists: what its deeds are, and what they make of a disk that has the log's segments alone. Nothing of the program. -/
import Derived.Test.YtpafialojcidnaaGreatDoorWlPure
namespace Go.Proofs.YtpafialojcidnaaGreatDoor
set_option linter.unusedVariables false
namespace Wl
open Dk

/-! ### the deeds, of any disk -/
/-- a log's name, the number of the segment that takes records, the next record's number -/
structure Lo where
  nm : Str
  last : Nat
  next : Nat
/-- where the next record goes: the disk behind it, the segment's number, the error -/
def place1 (K : St) (g : Lo) : St × Nat × Nat :=
  if (Dk.size K (file g.nm g.last)).2.2 ≠ 0 then (K, 0, (Dk.size K (file g.nm g.last)).2.2)
  else if (Dk.size K (file g.nm g.last)).1 < 4096 then (K, g.last, 0)
  else if (Dk.sync K (file g.nm g.last)).2 ≠ 0 then ((Dk.sync K (file g.nm g.last)).1, 0, (Dk.sync K (file g.nm g.last)).2)
  else if 99999999 < g.next then ((Dk.sync K (file g.nm g.last)).1, 0, 8)
  else ((Dk.sync K (file g.nm g.last)).1, g.next, 0)
def lay1 (K : St) (g : Lo) (r : Str) : St × Lo × Nat :=
  if 65536 < r.length then (K, g, 1)
  else if (place1 K g).2.2 ≠ 0 then ((place1 K g).1, g, (place1 K g).2.2)
  else if (Dk.append (place1 K g).1 (file g.nm (place1 K g).2.1) (Fr.frame r)).2 ≠ 0 then ((Dk.append (place1 K g).1 (file g.nm (place1 K g).2.1) (Fr.frame r)).1, g, (Dk.append (place1 K g).1 (file g.nm (place1 K g).2.1) (Fr.frame r)).2)
  else ((Dk.append (place1 K g).1 (file g.nm (place1 K g).2.1) (Fr.frame r)).1, ⟨g.nm, (place1 K g).2.1, g.next + 1⟩, 0)
def lays (K : St) (g : Lo) : List Str → St × Lo × Nat
  | [] => (K, g, 0)
  | r :: rs => if (lay1 K g r).2.2 ≠ 0 then lay1 K g r else lays (lay1 K g r).1 (lay1 K g r).2.1 rs
def appendL (K : St) (g : Lo) (rs : List Str) : St × Lo × Nat := if rs.any (fun r => decide (65536 < r.length)) = true then (K, g, 1) else lays K g rs
/-- the segments' numbers -/
def segs (nm : Str) (K : St) : List Nat := K.L.filterMap fun f => num nm f.name
def got (K : St) (nm : Str) (n : Nat) : Str := (Dk.read K (file nm n)).1
/-- what is read of segments -/
structure Rd where
  recs : List Str
  count : Nat
  fin : Nat
  last : Nat
  next : Nat
def rd (K : St) (nm : Str) : List Nat → Nat → Nat → Nat → Rd
  | [], last, next, fin => ⟨[], 0, fin, last, next⟩
  | n :: ns, last, next, fin =>
    if n = next then
      if Fr.place (Fr.all (got K nm n)) < (got K nm n).length then ⟨Fr.all (got K nm n), 1, Fr.place (Fr.all (got K nm n)), n, n + (Fr.all (got K nm n)).length⟩
      else ⟨Fr.all (got K nm n) ++ (rd K nm ns n (n + (Fr.all (got K nm n)).length) (Fr.place (Fr.all (got K nm n)))).recs,
        (rd K nm ns n (n + (Fr.all (got K nm n)).length) (Fr.place (Fr.all (got K nm n)))).count + 1,
        (rd K nm ns n (n + (Fr.all (got K nm n)).length) (Fr.place (Fr.all (got K nm n)))).fin,
        (rd K nm ns n (n + (Fr.all (got K nm n)).length) (Fr.place (Fr.all (got K nm n)))).last,
        (rd K nm ns n (n + (Fr.all (got K nm n)).length) (Fr.place (Fr.all (got K nm n)))).next⟩
    else ⟨[], 0, fin, last, next⟩
/-- segments are taken away, one behind the other -/
def Rem (nm : Str) : St → List Nat → St → Prop
  | K, [], K' => K = K'
  | K, n :: ns, K' => ∃ K1, Dk.remove K (file nm n) = (K1, 0) ∧ Rem nm K1 ns K'

/-! ### a disk that has the log's segments alone -/
def sg : Nat → List (List Str) → List (Nat × List Str)
  | _, [] => []
  | n, R :: Rs => (n, R) :: sg (n + R.length) Rs
def tot (I : List (List Str)) : Nat := I.flatten.length
def firsts (n : Nat) (Rs : List (List Str)) : List Nat := (sg n Rs).map (·.1)
def vv (nm : Str) (n : Nat) (Rs : List (List Str)) : List (Str × Str) := (sg n Rs).map fun s => (file nm s.1, Fr.flat s.2)
theorem tot_cons (R : List Str) (I : List (List Str)) : tot (R :: I) = R.length + tot I := by simp [tot]
theorem tot_snoc (I : List (List Str)) (R : List Str) : tot (I ++ [R]) = tot I + R.length := by simp [tot]
theorem tot_append (I J : List (List Str)) : tot (I ++ J) = tot I + tot J := by simp [tot]
theorem sg_append : ∀ (n : Nat) (A B : List (List Str)), sg n (A ++ B) = sg n A ++ sg (n + tot A) B
  | n, [], B => by simp [sg, tot]
  | n, R :: A, B => by
    rw [List.cons_append, sg, sg, sg_append _ A B, tot_cons, List.cons_append, Nat.add_assoc]
theorem sg_len : ∀ (n : Nat) (A : List (List Str)), (sg n A).length = A.length
  | _, [] => rfl
  | _, _ :: A => by rw [sg, List.length_cons, sg_len _ A, List.length_cons]
theorem vv_len (nm : Str) (n : Nat) (A : List (List Str)) : (vv nm n A).length = A.length := by rw [vv, List.length_map, sg_len]
theorem firsts_len (n : Nat) (A : List (List Str)) : (firsts n A).length = A.length := by rw [firsts, List.length_map, sg_len]
theorem vv_append (nm : Str) (n : Nat) (A B : List (List Str)) : vv nm n (A ++ B) = vv nm n A ++ vv nm (n + tot A) B := by
  rw [vv, sg_append, List.map_append]; rfl
theorem firsts_append (n : Nat) (A B : List (List Str)) : firsts n (A ++ B) = firsts n A ++ firsts (n + tot A) B := by
  rw [firsts, sg_append, List.map_append]; rfl
theorem vv_cons (nm : Str) (n : Nat) (R : List Str) (A : List (List Str)) : vv nm n (R :: A) = (file nm n, Fr.flat R) :: vv nm (n + R.length) A := rfl
theorem firsts_cons (n : Nat) (R : List Str) (A : List (List Str)) : firsts n (R :: A) = n :: firsts (n + R.length) A := rfl
theorem vv_one (nm : Str) (n : Nat) (R : List Str) : vv nm n [R] = [(file nm n, Fr.flat R)] := rfl
theorem firsts_one (n : Nat) (R : List Str) : firsts n [R] = [n] := rfl
/-- a name there is below one that comes next -/
theorem vv_lt {nm : Str} : ∀ {I : List (List Str)} {n m : Nat}, (∀ s ∈ I, s ≠ []) → n + tot I ≤ m → m < 100000000 → ∀ p ∈ vv nm n I, p.1 < file nm m
  | [], _, _, _, _, _, _, hp => by cases hp
  | R :: I, n, m, hne, hm, hb, p, hp => by
    have hR : 0 < R.length := List.length_pos_iff.2 (hne R (List.mem_cons_self ..))
    rw [tot_cons] at hm
    rw [vv_cons] at hp
    rcases List.mem_cons.1 hp with rfl | hp
    · exact file_lt nm (by omega) hb
    · exact vv_lt (fun s hs => hne s (List.mem_cons_of_mem _ hs)) (by omega) hb p hp
/-- the numbers, off the names -/
theorem vv_nums {nm : Str} : ∀ {I : List (List Str)} {n : Nat}, n + tot I < 100000000 → (vv nm n I).filterMap (fun p => num nm p.1) = firsts n I
  | [], _, _ => rfl
  | R :: I, n, h => by
    rw [tot_cons] at h
    rw [vv_cons, firsts_cons, List.filterMap_cons_some (by exact num_file nm (by omega)), vv_nums (by omega)]

structure Lg (K : St) (nm : Str) (n0 : Nat) (I : List (List Str)) (R : List Str) : Prop where
  vw : Vw K (vv nm n0 (I ++ [R]))
  nm16 : nm.length ≤ 16
  ne : ∀ s ∈ I, s ≠ []
  small : ∀ s ∈ I ++ [R], ∀ x ∈ s, x.length ≤ 65536
  top : n0 + tot I + R.length ≤ 99999999
  few : I.length < 64
section
variable {K : St} {nm : Str} {n0 : Nat} {I : List (List Str)} {R : List Str}
theorem Lg.split (h : Lg K nm n0 I R) : vv nm n0 (I ++ [R]) = vv nm n0 I ++ (file nm (n0 + tot I), Fr.flat R) :: [] := by rw [vv_append, vv_one]
theorem Lg.segs (h : Lg K nm n0 I R) : Wl.segs nm K = firsts n0 (I ++ [R]) := by
  have e : Wl.segs nm K = (K.L.map (fun f => (f.name, f.all))).filterMap (fun p => num nm p.1) := by rw [List.filterMap_map]; rfl
  rw [e, h.vw.view]
  exact vv_nums (by have := h.top; rw [tot_snoc]; omega)
theorem Lg.size (h : Lg K nm n0 I R) : ∃ b, Dk.size K (file nm (n0 + tot I)) = (Fr.place R, b, 0) := by
  obtain ⟨b, e⟩ := vw_size h.vw h.split
  exact ⟨b, by rw [e, Fr.flat_len]⟩
theorem Lg.sync (h : Lg K nm n0 I R) : ∃ K', Dk.sync K (file nm (n0 + tot I)) = (K', 0) ∧ Lg K' nm n0 I R := by
  obtain ⟨K', e, v⟩ := vw_sync h.vw h.split
  exact ⟨K', e, v, h.nm16, h.ne, h.small, h.top, h.few⟩
theorem Lg.app (h : Lg K nm n0 I R) {r : Str} (hp : Fr.place R < 4096) (hr : r.length ≤ 65536) (ht : n0 + tot I + R.length < 99999999) :
    ∃ K', Dk.append K (file nm (n0 + tot I)) (Fr.frame r) = (K', 0) ∧ Lg K' nm n0 I (R ++ [r]) := by
  obtain ⟨K', e, v⟩ := vw_append (t := Fr.frame r) h.vw h.split (by rw [Fr.flat_len, Fr.frame_len]; omega)
  refine ⟨K', e, ?_, h.nm16, h.ne, fun s hs x hx => ?_, by rw [List.length_append]; simp; omega, h.few⟩
  · rw [vv_append, vv_one, Fr.flat_snoc]; exact v
  · rcases List.mem_append.1 hs with hs | hs
    · exact h.small s (List.mem_append_left _ hs) x hx
    · rw [List.mem_singleton] at hs
      subst hs
      rcases List.mem_append.1 hx with hx | hx
      · exact h.small R (by simp) x hx
      · rw [List.mem_singleton] at hx; rw [hx]; exact hr
theorem place_ne {R : List Str} (h : 4096 ≤ Fr.place R) : R ≠ [] := fun e => by rw [e] at h; simp [Fr.place] at h
theorem Lg.more (h : Lg K nm n0 I R) {r : Str} (hp : 4096 ≤ Fr.place R) (hr : r.length ≤ 65536) (ht : n0 + tot I + R.length < 99999999) (hf : I.length < 63) :
    ∃ K', Dk.append K (file nm (n0 + tot I + R.length)) (Fr.frame r) = (K', 0) ∧ Lg K' nm n0 (I ++ [R]) [r] := by
  have hne : ∀ s ∈ I ++ [R], s ≠ [] := fun s hs => by
    rcases List.mem_append.1 hs with hs | hs
    · exact h.ne s hs
    · rw [List.mem_singleton] at hs; rw [hs]; exact place_ne hp
  obtain ⟨K', e, v⟩ := vw_more (t := Fr.frame r) h.vw (file_bad (n0 + tot I + R.length) h.nm16) (vv_lt hne (by rw [tot_snoc]; omega) (by omega)) (by rw [vv_len, List.length_append]; simp; omega) (by rw [Fr.frame_len]; omega)
  refine ⟨K', e, ?_, h.nm16, hne, fun s hs x hx => ?_, by rw [tot_snoc]; simp; omega, by rw [List.length_append]; simp; omega⟩
  · rw [vv_append, vv_one, tot_snoc, ← Nat.add_assoc]
    have : Fr.flat [r] = Fr.frame r := by simp [Fr.flat]
    rw [this]; exact v
  · rcases List.mem_append.1 hs with hs | hs
    · exact h.small s hs x hx
    · rw [List.mem_singleton] at hs; rw [hs, List.mem_singleton] at hx; rw [hx]; exact hr
theorem Lg.full (h : Lg K nm n0 I R) {t : Str} (hp : 4096 ≤ Fr.place R) (hf : I.length = 63) (ht : n0 + tot I + R.length ≤ 99999999) : Dk.append K (file nm (n0 + tot I + R.length)) t = (K, 8) := by
  have hne : ∀ s ∈ I ++ [R], s ≠ [] := fun s hs => by
    rcases List.mem_append.1 hs with hs | hs
    · exact h.ne s hs
    · rw [List.mem_singleton] at hs; rw [hs]; exact place_ne hp
  exact vw_full h.vw (file_bad _ h.nm16) (fun p hp => slt_ne (vv_lt hne (by rw [tot_snoc]; omega) (by omega) p hp)) (by rw [vv_len, List.length_append]; simp; omega)
theorem Lg.got_of (h : Lg K nm n0 I R) {A B : List (List Str)} {Q : List Str} (he : I ++ [R] = A ++ Q :: B) : Dk.read K (file nm (n0 + tot A)) = (Fr.flat Q, 0) :=
  vw_read h.vw (by rw [he, vv_append, vv_cons])
theorem Lg.drop (h : Lg K nm n0 I R) {Q : List Str} {J : List (List Str)} (he : I = Q :: J) : ∃ K', Dk.remove K (file nm n0) = (K', 0) ∧ Lg K' nm (n0 + Q.length) J R := by
  subst he
  have ht := h.top
  rw [tot_cons] at ht
  obtain ⟨K', e, v⟩ := vw_remove h.vw (A := []) (B := vv nm (n0 + Q.length) (J ++ [R])) rfl
  refine ⟨K', e, v, h.nm16, fun s hs => h.ne s (List.mem_cons_of_mem _ hs), fun s hs => h.small s (by rw [List.cons_append]; exact List.mem_cons_of_mem _ hs), by omega, ?_⟩
  have := h.few
  rw [List.length_cons] at this
  omega
end

/-! ### what is read -/
theorem rd_whole {K : St} {nm : Str} {ns : List Nat} : ∀ {A : List (List Str)} {n last fin : Nat}, (∀ s ∈ A, ∀ x ∈ s, x.length ≤ 65536) → (∀ A1 Q B, A = A1 ++ Q :: B → got K nm (n + tot A1) = Fr.flat Q) → A ≠ [] →
    ∃ l f, rd K nm (firsts n A ++ ns) last n fin = ⟨A.flatten ++ (rd K nm ns l (n + tot A) f).recs, A.length + (rd K nm ns l (n + tot A) f).count, (rd K nm ns l (n + tot A) f).fin, (rd K nm ns l (n + tot A) f).last, (rd K nm ns l (n + tot A) f).next⟩ ∧
      ∃ J Q, A = J ++ [Q] ∧ l = n + tot J ∧ f = Fr.place Q
  | [], _, _, _, _, _, h => absurd rfl h
  | Q :: A, n, last, fin, hs, hg, _ => by
    have hq := hg [] Q A rfl
    have h0 : n + tot [] = n := by simp [tot]
    rw [h0] at hq
    have ha := Fr.all_flat Q (hs Q (List.mem_cons_self ..))
    have hp : ¬ Fr.place Q < (Fr.flat Q).length := by rw [Fr.flat_len]; omega
    rw [firsts_cons, List.cons_append, rd, if_pos rfl, hq, ha, if_neg hp]
    cases A with
    | nil =>
      refine ⟨n, Fr.place Q, ?_, [], Q, rfl, h0.symm, rfl⟩
      have : n + tot [Q] = n + Q.length := by simp [tot]
      rw [this]
      simp only [firsts, sg, List.map_nil, List.nil_append, List.flatten_cons, List.flatten_nil, List.append_nil, List.length_cons, List.length_nil]
      rw [Nat.add_comm _ (0 + 1)]
    | cons Q' A =>
      obtain ⟨l, f, e, J, P, hJ, hl, hf⟩ := rd_whole (K := K) (nm := nm) (ns := ns) (A := Q' :: A) (n := n + Q.length) (last := n) (fin := Fr.place Q) (fun s h => hs s (List.mem_cons_of_mem _ h))
        (fun A1 P B e => by
          have := hg (Q :: A1) P B (by rw [e]; rfl)
          rwa [tot_cons, ← Nat.add_assoc] at this) (by simp)
      refine ⟨l, f, ?_, Q :: J, P, by rw [hJ]; rfl, by rw [tot_cons, ← Nat.add_assoc]; exact hl, hf⟩
      rw [e, tot_cons Q (Q' :: A), ← Nat.add_assoc]
      simp only [List.flatten_cons, List.append_assoc, List.length_cons]
      congr 1
      omega
section
variable {K : St} {nm : Str} {n0 : Nat} {I : List (List Str)} {R : List Str}
/-- all is read of a log that is whole -/
theorem Lg.rd (h : Lg K nm n0 I R) : Wl.rd K nm (firsts n0 (I ++ [R])) 0 n0 0 = ⟨(I ++ [R]).flatten, I.length + 1, Fr.place R, n0 + tot I, n0 + tot I + R.length⟩ := by
  obtain ⟨l, f, e, J, Q, hJ, hl, hf⟩ := rd_whole (K := K) (nm := nm) (ns := []) (A := I ++ [R]) (n := n0) (last := 0) (fin := 0) h.small (fun A1 Q B e => by rw [got, h.got_of e]) (by simp)
  obtain ⟨rfl, hQ⟩ := List.append_inj' hJ rfl
  simp only [List.cons.injEq, and_true] at hQ
  subst hQ
  rw [List.append_nil] at e
  rw [e, hl, hf, tot_snoc]
  simp [Wl.rd, Nat.add_assoc]
theorem Lg.cut (h : Lg K nm n0 I R) : ∃ K', Dk.trunc K (file nm (n0 + tot I)) (Fr.place R : Nat) = (K', 0) ∧ Lg K' nm n0 I R := by
  obtain ⟨K', e, v⟩ := vw_trunc h.vw h.split (n := Fr.place R) (by rw [Fr.flat_len]; exact Nat.le_refl _)
  refine ⟨K', e, ?_, h.nm16, h.ne, h.small, h.top, h.few⟩
  rw [← Fr.flat_len, List.take_length, ← h.split] at v
  exact v
end

/-! ### a log of which a segment is torn -/
structure Tn (K : St) (nm : Str) (n0 : Nat) (A : List (List Str)) (t : Str) (B : List (List Str)) (m : Nat) : Prop where
  vw : Vw K (vv nm n0 A ++ (file nm (n0 + tot A), t) :: vv nm m B)
  nm16 : nm.length ≤ 16
  ne : ∀ s ∈ A, s ≠ []
  small : ∀ s ∈ A, ∀ x ∈ s, x.length ≤ 65536
  smallt : ∀ x ∈ Fr.all t, x.length ≤ 65536
  torn : Fr.place (Fr.all t) < t.length
  is : t.take (Fr.place (Fr.all t)) = Fr.flat (Fr.all t)
  top : n0 + tot A + (Fr.all t).length ≤ 99999999
  topm : m + tot B ≤ 99999999
  few : A.length < 64
section
variable {K : St} {nm : Str} {n0 m : Nat} {A B : List (List Str)} {t : Str}
theorem Tn.segs (h : Tn K nm n0 A t B m) : Wl.segs nm K = firsts n0 A ++ (n0 + tot A) :: firsts m B := by
  have e : Wl.segs nm K = (K.L.map (fun f => (f.name, f.all))).filterMap (fun p => num nm p.1) := by rw [List.filterMap_map]; rfl
  have h1 := h.top
  have h2 := h.topm
  rw [e, h.vw.view, List.filterMap_append, vv_nums (by omega), List.filterMap_cons_some (by exact num_file nm (by omega)), vv_nums (by omega)]
theorem Tn.rd (h : Tn K nm n0 A t B m) : Wl.rd K nm (firsts n0 A ++ (n0 + tot A) :: firsts m B) 0 n0 0 = ⟨A.flatten ++ Fr.all t, A.length + 1, Fr.place (Fr.all t), n0 + tot A, n0 + tot A + (Fr.all t).length⟩ := by
  have hg : got K nm (n0 + tot A) = t := by rw [got, vw_read h.vw rfl]
  have hone : ∀ l f, Wl.rd K nm ((n0 + tot A) :: firsts m B) l (n0 + tot A) f = ⟨Fr.all t, 1, Fr.place (Fr.all t), n0 + tot A, n0 + tot A + (Fr.all t).length⟩ := fun l f => by
    rw [Wl.rd, if_pos rfl, hg, if_pos h.torn]
  cases A with
  | nil => 
    have h0 : n0 + tot [] = n0 := by simp [tot]
    rw [h0] at hone ⊢
    exact hone 0 0
  | cons Q A =>
    obtain ⟨l, f, e, _⟩ := rd_whole (K := K) (nm := nm) (ns := (n0 + tot (Q :: A)) :: firsts m B) (A := Q :: A) (n := n0) (last := 0) (fin := 0) h.small (fun A1 P B1 e => by
      have hv := h.vw
      rw [e, vv_append, vv_cons, List.append_assoc, List.cons_append] at hv
      rw [got, vw_read hv rfl]) (by simp)
    rw [e, hone]
/-- the segments behind it are taken away, the last one first -/
theorem Tn.rem {nm : Str} {A : List (Str × Str)} : ∀ {B : List (List Str)} {K : St} {m : Nat}, Vw K (A ++ vv nm m B) → ∃ K', Rem nm K (firsts m B).reverse K' ∧ Vw K' A := by
  intro B
  have key : ∀ (k : Nat) (B : List (List Str)) (K : St) (m : Nat), B.length = k → Vw K (A ++ vv nm m B) → ∃ K', Rem nm K (firsts m B).reverse K' ∧ Vw K' A := by
    intro k
    induction k with
    | zero =>
      intro B K m hB hv
      have : B = [] := List.eq_nil_of_length_eq_zero hB
      subst this
      refine ⟨K, rfl, ?_⟩
      simpa [vv, sg] using hv
    | succ k ih =>
      intro B K m hB hv
      obtain ⟨B', Q, rfl⟩ : ∃ B' Q, B = B' ++ [Q] := ⟨B.dropLast, B.getLast (by intro e; rw [e] at hB; simp at hB), (List.dropLast_concat_getLast _).symm⟩
      rw [vv_append, vv_one, ← List.append_assoc] at hv
      obtain ⟨K1, e1, v1⟩ := vw_remove hv (A := A ++ vv nm m B') (B := []) rfl
      rw [List.append_nil] at v1
      obtain ⟨K', r, v⟩ := ih B' K1 m (by rw [List.length_append] at hB; simpa using hB) v1
      refine ⟨K', ?_, v⟩
      rw [firsts_append, firsts_one, List.reverse_append]
      exact ⟨K1, e1, r⟩
  exact fun {K m} => key B.length B K m rfl
theorem Tn.mend (h : Tn K nm n0 A t B m) : ∃ K1 K2 K3, Rem nm K (firsts m B).reverse K1 ∧ Dk.trunc K1 (file nm (n0 + tot A)) (Fr.place (Fr.all t) : Nat) = (K2, 0) ∧ Dk.sync K2 (file nm (n0 + tot A)) = (K3, 0) ∧ Lg K3 nm n0 A (Fr.all t) := by
  have hv := h.vw
  rw [show vv nm n0 A ++ (file nm (n0 + tot A), t) :: vv nm m B = (vv nm n0 A ++ [(file nm (n0 + tot A), t)]) ++ vv nm m B by simp] at hv
  obtain ⟨K1, r1, v1⟩ := Tn.rem hv
  obtain ⟨K2, e2, v2⟩ := vw_trunc v1 (A := vv nm n0 A) (B := []) rfl (n := Fr.place (Fr.all t)) (Nat.le_of_lt h.torn)
  obtain ⟨K3, e3, v3⟩ := vw_sync v2 rfl
  refine ⟨K1, K2, K3, r1, e2, e3, ?_, h.nm16, h.ne, fun s hs => ?_, h.top, h.few⟩
  · rw [vv_append, vv_one, ← h.is]; exact v3
  · rcases List.mem_append.1 hs with hs | hs
    · exact h.small s hs
    · rw [List.mem_singleton] at hs; rw [hs]; exact h.smallt
end
end Wl
end Go.Proofs.YtpafialojcidnaaGreatDoor
