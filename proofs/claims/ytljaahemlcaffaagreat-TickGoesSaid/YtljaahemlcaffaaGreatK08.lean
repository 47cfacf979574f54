/- A tick over lists of entities: the whole of it; neighbours among the commands, the order of what is handed in. Nothing of the program. Where one stands among entities. Written out of wip/parts. Nothing of the program. A tick as the code does it, over lists: the dead are gathered and named at the end. Nothing of the program. -/
import Derived.Test.YtljaahemlcaffaaGreatK07
namespace Go.Proofs.YtljaahemlcaffaaGreat
open Go Pz
set_option linter.unusedVariables false

namespace Tk
abbrev Ht := (Int × Int × Int) × Int
/-- the first one of a name -/
def hit (hs : List Ht) (k : K3) : Int := match hs.find? fun h => decide (h.1 = k) with | some h => h.2 | none => 0
def hurts (hs : List Ht) (b : Bn) : Bn × Bool := Sy.hurt b (hit hs b.id)
def ends (C R S V : Int) (b : Bn) : Bn × Bool := Sy.age (Sy.move C R S V b)
theorem hurts_keep (hs : List Ht) : Keep (hurts hs) := fun b h => by
  unfold hurts Sy.hurt at h ⊢
  split
  · split
    · rename_i h1 h2; rw [if_pos h1, if_pos h2] at h; cases h
    · rfl
  · rfl
theorem move_id (C R S V : Int) (b : Bn) : (Sy.move C R S V b).id = b.id := by
  unfold Sy.move Sy.push
  split <;> rfl
theorem ends_keep (C R S V : Int) : Keep (ends C R S V) := fun b h => by
  rw [← move_id C R S V b]
  unfold ends Sy.age at h ⊢
  split
  · split
    · rename_i h1 h2; rw [if_pos h1, if_pos h2] at h; cases h
    · rfl
  · rfl
def start (D : Int) (own near : List Bn) : St := each (hurts (Sy.hits D own near)) (sortL Bn.id own, [])
def cmds (C R S z : Int) (s : St) (cs : List Cn) : St := cs.foldl (cmd C R S z) s
def runS (C R S D V z : Int) (own near : List Bn) (cs : List Cn) : St := each (ends C R S V) (cmds C R S z (start D own near) cs)
def here (C R S z : Int) (b : Bn) : Bool := decide (z < 0) || decide (Zn.of C R S b.x b.y = z)
def run (C R S D V z : Int) (own near : List Bn) (cs : List Cn) : List Bn × List Bn × List K3 :=
  if -1 ≤ z ∧ z < C * R then ((runS C R S D V z own near cs).1.filter (here C R S z), (runS C R S D V z own near cs).1.filter (fun b => !here C R S z b), (runS C R S D V z own near cs).2) else ([], [], [])
/-! ### in order -/
theorem flt_one {l : List Bn} (h : Un l) {k : K3} {x : Bn} (hx : x ∈ l) (hk : x.id = k) : flt Bn.id k l = [x] := by
  induction l with
  | nil => cases hx
  | cons y r ih =>
    unfold Un at h
    rw [List.map_cons, List.nodup_cons] at h
    unfold flt
    rcases List.mem_cons.1 hx with rfl | hx
    · rw [List.filter_cons_of_pos (by simpa using hk)]
      congr 1
      rw [List.filter_eq_nil_iff]
      intro z hz
      simp only [decide_eq_true_eq]
      intro e
      exact h.1 (List.mem_map.2 ⟨z, hz, e.trans hk.symm⟩)
    · rw [List.filter_cons_of_neg (by
        simp only [decide_eq_true_eq]
        intro e
        exact h.1 (List.mem_map.2 ⟨x, hx, hk.trans e.symm⟩))]
      exact ih h.2 hx
theorem alike_of {l m : List Bn} (hl : Un l) (hm : Un m) (h : ∀ x, x ∈ l ↔ x ∈ m) : Pz.Alike Bn.id l m := fun k => by
  by_cases hk : ∃ x ∈ l, x.id = k
  · obtain ⟨x, hx, e⟩ := hk
    rw [flt_one hl hx e, flt_one hm ((h x).1 hx) e]
  · have h1 : flt Bn.id k l = [] := flt_none fun x hx e => hk ⟨x, hx, e⟩
    have h2 : flt Bn.id k m = [] := flt_none fun x hx e => hk ⟨x, (h x).2 hx, e⟩
    rw [h1, h2]
theorem sort_same {l m : List Bn} (hl : Un l) (hm : Un m) (h : ∀ x, x ∈ l ↔ x ∈ m) : sortL Bn.id l = sortL Bn.id m := by
  obtain ⟨h1, h2⟩ := sortL_srt (κ := Bn.id) l
  exact sorted_is h1 (h2.trans (alike_of hl hm h))
theorem un_perm {l m : List Bn} (h : l.Perm m) (hl : Un l) : Un m := (h.map Bn.id).nodup_iff.1 hl
theorem srt_up : ∀ {l : List Bn}, Srt Bn.id l → Un l → Up l
  | [], _, _ => List.Pairwise.nil
  | x :: l, h, hu => by
    unfold Srt at h
    unfold Un at hu
    rw [List.pairwise_cons] at h
    rw [List.map_cons, List.nodup_cons] at hu
    unfold Up
    rw [List.pairwise_cons]
    refine ⟨fun y hy => ?_, srt_up (l := l) h.2 hu.2⟩
    cases e : before x.id y.id with
    | true => rfl
    | false => exact absurd (List.mem_map.2 ⟨y, hy, same_of e (h.1 y hy)⟩) hu.1
theorem up_srt {l : List Bn} (h : Up l) : Srt Bn.id l := h.imp fun h => before_asym h
theorem sort_up {l : List Bn} (h : Un l) : Up (sortL Bn.id l) := srt_up (sortL_srt l).1 (un_perm (Sy.sort_perm l).symm h)
theorem sort_at {l : List Bn} (h : Un l) (k : K3) : at_ (sortL Bn.id l) k = at_ l k := opt_ext fun x => by
  rw [at_iff (sort_up h).un, at_iff h, (Sy.sort_perm l).mem_iff]
/-- what stands by names, stays -/
theorem sort_id {l : List Bn} (h : Up l) : sortL Bn.id l = l := up_ext (sort_up h.un) h fun x => (Sy.sort_perm l).mem_iff
/-! ### what is known behind each part -/
theorem sorted_ok {own : List Bn} (h : Un own) : Ok ((sortL Bn.id own, []) : St) := ⟨sort_up h, List.Pairwise.nil⟩
theorem start_ok (D : Int) {own : List Bn} (h : Un own) (near : List Bn) : Ok (start D own near) := Ok.each (hurts_keep _) (sorted_ok h)
theorem start_view (D : Int) {own : List Bn} (h : Un own) (near : List Bn) (k : K3) : view (start D own near) k = eachK (hurts (Sy.hits D own near)) (at_ own k, false) := by
  unfold start
  rw [each_view (hurts_keep _) (sorted_ok h)]
  congr 1
  unfold view
  rw [sort_at h]
  simp
theorem cmds_ok {C R S z : Int} : ∀ (cs : List Cn) {s : St}, Ok s → Ok (cmds C R S z s cs)
  | [], _, h => h
  | c :: cs, s, h => cmds_ok cs (cmd_ok h c)
def cmdsK (C R S z : Int) (k : K3) (v : Vw) (cs : List Cn) : Vw := cs.foldl (fun v c => if owner c = k then cmdK C R S z c v else v) v
theorem cmds_view {C R S z : Int} : ∀ (cs : List Cn) {s : St}, Ok s → ∀ k, view (cmds C R S z s cs) k = cmdsK C R S z k (view s k) cs
  | [], _, _, _ => rfl
  | c :: cs, s, h, k => by
    show view (cmds C R S z (cmd C R S z s c) cs) k = cmdsK C R S z k (if owner c = k then cmdK C R S z c (view s k) else view s k) cs
    rw [cmds_view cs (cmd_ok h c), cmd_view h]
theorem run_ok (C R S D V z : Int) {own : List Bn} (h : Un own) (near : List Bn) (cs : List Cn) : Ok (runS C R S D V z own near cs) := Ok.each (ends_keep _ _ _ _) (cmds_ok cs (start_ok D h near))
theorem run_view (C R S D V z : Int) {own : List Bn} (h : Un own) (near : List Bn) (cs : List Cn) (k : K3) : view (runS C R S D V z own near cs) k = eachK (ends C R S V) (cmdsK C R S z k (eachK (hurts (Sy.hits D own near)) (at_ own k, false)) cs) := by
  unfold runS
  rw [each_view (ends_keep _ _ _ _) (cmds_ok cs (start_ok D h near)), cmds_view cs (start_ok D h near), start_view D h]
/-! ### neighbours -/
theorem run_turn (C R S D V z : Int) {own : List Bn} (h : Un own) (near : List Bn) (p q : List Cn) {a b : Cn} (hab : owner a ≠ owner b) : runS C R S D V z own near (p ++ a :: b :: q) = runS C R S D V z own near (p ++ b :: a :: q) := by
  have hp := cmds_ok (C := C) (R := R) (S := S) (z := z) p (start_ok D h near)
  unfold runS
  congr 1
  unfold cmds at hp ⊢
  rw [List.foldl_append, List.foldl_append, List.foldl_cons, List.foldl_cons, List.foldl_cons, List.foldl_cons, cmd_turn hp hab]
/-! ### orders -/
theorem step_nn {b : Bn} {r s : Int} {c : Bn} (h0 : 0 ≤ s) (hp : 0 ≤ c.p) : 0 ≤ (if Sy.meets b r c then Rc.clamp (s + Rc.clamp c.p) else s) := by
  split
  · unfold Rc.clamp; omega
  · exact h0
theorem takes_nn {b : Bn} {r : Int} : ∀ {l : List Bn} {s : Int}, 0 ≤ s → (∀ c ∈ l, 0 ≤ c.p) → 0 ≤ Sy.takes b r s l
  | [], _, h, _ => h
  | c :: l, s, h, hp => takes_nn (l := l) (step_nn h (hp c List.mem_cons_self)) fun x hx => hp x (List.mem_cons_of_mem _ hx)
theorem takes_perm {b : Bn} {r : Int} {l m : List Bn} (h : l.Perm m) : ∀ {s : Int}, 0 ≤ s → (∀ c ∈ l, 0 ≤ c.p) → Sy.takes b r s l = Sy.takes b r s m := by
  induction h with
  | nil => intro s _ _; rfl
  | cons x _ ih =>
    intro s hs hp
    exact ih (step_nn hs (hp x List.mem_cons_self)) fun c hc => hp c (List.mem_cons_of_mem _ hc)
  | swap x y l =>
    intro s hs hp
    have hy := hp y List.mem_cons_self
    have hx := hp x (List.mem_cons_of_mem _ List.mem_cons_self)
    show Sy.takes b r (if Sy.meets b r x then Rc.clamp ((if Sy.meets b r y then Rc.clamp (s + Rc.clamp y.p) else s) + Rc.clamp x.p) else (if Sy.meets b r y then Rc.clamp (s + Rc.clamp y.p) else s)) l = Sy.takes b r (if Sy.meets b r y then Rc.clamp ((if Sy.meets b r x then Rc.clamp (s + Rc.clamp x.p) else s) + Rc.clamp y.p) else (if Sy.meets b r x then Rc.clamp (s + Rc.clamp x.p) else s)) l
    congr 1
    cases Sy.meets b r x <;> cases Sy.meets b r y <;> simp only [if_true, Bool.false_eq_true, if_false]
    unfold Rc.clamp
    omega
  | trans h1 h2 ih1 ih2 =>
    intro s hs hp
    rw [ih1 hs hp]
    exact ih2 hs fun c hc => hp c (h1.mem_iff.2 hc)
theorem hits_perm (r : Int) {own own' near near' : List Bn} (hu : Un own) (h : own.Perm own') (hn : near.Perm near') (hp : ∀ c ∈ own, 0 ≤ c.p) (hp2 : ∀ c ∈ near, 0 ≤ c.p) : Sy.hits r own near = Sy.hits r own' near' := by
  unfold Sy.hits
  rw [sort_same hu (un_perm h hu) fun x => h.mem_iff]
  refine Sy.fm_congr fun b _ => ?_
  have e : Sy.takes b r (Sy.takes b r 0 own) near = Sy.takes b r (Sy.takes b r 0 own') near' := by
    rw [takes_perm hn (takes_nn (Int.le_refl 0) hp) hp2, takes_perm h (Int.le_refl 0) hp]
  unfold Sy.hitOf
  rw [e]
theorem run_order (C R S D V z : Int) {own own' near near' : List Bn} (hu : Un own) (h : own.Perm own') (hn : near.Perm near') (hp : ∀ c ∈ own, 0 ≤ c.p) (hp2 : ∀ c ∈ near, 0 ≤ c.p) (cs : List Cn) : runS C R S D V z own near cs = runS C R S D V z own' near' cs := by
  unfold runS start
  rw [hits_perm D hu h hn hp hp2, sort_same hu (un_perm h hu) fun x => h.mem_iff]
theorem run_eq {C R S D V z : Int} {own own' near near' : List Bn} {cs cs' : List Cn} (h : runS C R S D V z own near cs = runS C R S D V z own' near' cs') : run C R S D V z own near cs = run C R S D V z own' near' cs' := by
  unfold run
  rw [h]
/-! ### quiet -/
theorem each_still {f : Bn → Bn × Bool} {s : St} (h : ∀ b ∈ s.1, f b = (b, true)) : each f s = s := by
  obtain ⟨l, d⟩ := s
  unfold each
  refine Prod.ext ?_ ?_
  · show l.filterMap _ = l
    induction l with
    | nil => rfl
    | cons x l ih =>
      have hx := h x List.mem_cons_self
      rw [List.filterMap_cons, hx]
      simp only [if_true]
      rw [ih fun b hb => h b (List.mem_cons_of_mem _ hb)]
  · show l.foldl _ d = d
    induction l with
    | nil => rfl
    | cons x l ih =>
      have hx := h x List.mem_cons_self
      rw [List.foldl_cons, hx]
      simp only [if_true]
      exact ih fun b hb => h b (List.mem_cons_of_mem _ hb)
theorem run_quiet (C R S D V : Int) {own : List Bn} (hp : ∀ b ∈ own, bitB b.m 3 = false) (hv : ∀ b ∈ own, ends C R S V b = (b, true)) : runS C R S D V (-1) own [] [] = (sortL Bn.id own, []) := by
  have hm : ∀ b ∈ sortL Bn.id own, b ∈ own := fun b hb => (Sy.sort_perm own).mem_iff.1 hb
  have h0 : Sy.hits D own [] = [] := by
    unfold Sy.hits
    rw [List.filterMap_eq_nil_iff]
    intro b hb
    have e : Sy.takes b D 0 own = 0 := Sy.takes_none 0 fun c hc => by
      unfold Sy.meets
      rw [hp c hc]
      simp
    unfold Sy.hitOf
    rw [e]
    simp [Sy.takes]
  have h1 : start D own [] = (sortL Bn.id own, []) := by
    unfold start
    rw [h0]
    refine each_still fun b hb => ?_
    show Sy.hurt b 0 = (b, true)
    unfold Sy.hurt
    rw [if_neg (by omega)]
  unfold runS cmds
  rw [h1]
  exact each_still fun b hb => hv b (hm b hb)
end Tk
end Go.Proofs.YtljaahemlcaffaaGreat
namespace Go.Proofs.YtljaahemlcaffaaGreat
open Go Pz
set_option linter.unusedVariables false

namespace Pz
/-- where the first one stands that does not come ahead of a name -/
def findAt (l : List Bn) (id : Int × Int × Int) : Nat := (l.takeWhile fun b => before b.id id).length
def sameID (a b : Int × Int × Int) : Bool := (a.1 == b.1) && ((a.2.1 == b.2.1) && (a.2.2 == b.2.2))
def foundAt (l : List Bn) (id : Int × Int × Int) : Bool := match l[findAt l id]? with | some b => sameID b.id id | none => false
theorem findAt_le (l : List Bn) (id : Int × Int × Int) : findAt l id ≤ l.length := by
  unfold findAt
  exact (List.takeWhile_sublist _).length_le
theorem findAt_end : ∀ (l : List Bn) (id : Int × Int × Int) (i : Nat), (∀ j y, j < i → l[j]? = some y → before y.id id = true) → i ≤ l.length → (i = l.length ∨ ∃ y, l[i]? = some y ∧ before y.id id = false) → findAt l id = i
  | [], id, i, _, hi, _ => by
    have : i = 0 := by simpa using hi
    subst this
    rfl
  | x :: r, id, 0, _, _, h => by
    rcases h with h | ⟨y, h1, h2⟩
    · cases h
    · simp only [List.getElem?_cons_zero, Option.some.injEq] at h1
      subst h1
      unfold findAt
      rw [List.takeWhile_cons, h2]
      rfl
  | x :: r, id, i + 1, hb, hi, h => by
    have h0 := hb 0 x (by omega) rfl
    have := findAt_end r id i (fun j y hj hy => hb (j + 1) y (by omega) (by simpa using hy)) (by simpa using hi) (by
      rcases h with h | ⟨y, h1, h2⟩
      · exact .inl (by simpa using h)
      · exact .inr ⟨y, by simpa using h1, h2⟩)
    unfold findAt at this ⊢
    rw [List.takeWhile_cons, h0, if_pos rfl, List.length_cons, this]
end Pz
end Go.Proofs.YtljaahemlcaffaaGreat
namespace Go.Proofs.YtljaahemlcaffaaGreat
open Go Pz
set_option linter.unusedVariables false
set_option linter.unusedSimpArgs false

namespace Tk
/-- the numbers that what is done to one asks to be in range -/
structure Fi (b : Bn) : Prop where
  x : Fit b.x
  y : Fit b.y
  vx : Fit b.vx
  vy : Fit b.vy
  h : Fit b.h
  l : Fit b.l
theorem Fi.of {b : Bn} (h : b.Fits) : Fi b := ⟨h.x, h.y, h.vx, h.vy, h.h, h.l⟩
theorem fit0 : Fit 0 := ⟨by decide, by decide⟩
theorem hurt_fi {b : Bn} (h : Fi b) (n : Int) : Fi (Sy.hurt b n).1 := by
  unfold Sy.hurt
  split
  · split
    · exact ⟨fit0, fit0, fit0, fit0, fit0, fit0⟩
    · refine ⟨h.x, h.y, h.vx, h.vy, ?_, h.l⟩
      have := h.h
      unfold Fit at this ⊢
      constructor <;> dsimp only <;> omega
  · exact h
theorem age_fi {b : Bn} (h : Fi b) : Fi (Sy.age b).1 := by
  unfold Sy.age
  split
  · split
    · exact ⟨fit0, fit0, fit0, fit0, fit0, fit0⟩
    · refine ⟨h.x, h.y, h.vx, h.vy, h.h, ?_⟩
      have := h.l
      unfold Fit at this ⊢
      constructor <;> dsimp only <;> omega
  · exact h
theorem obey_fi {b c : Bn} (h : Fi b) (hc : Fi c) (k : Int) (id : K3) (m : Int) : Fi (Sy.obey b k id c m).1 := by
  have hi : ∀ {p : Bool} {x y : Int}, Fit x → Fit y → Fit (if p then x else y) := fun {p x y} a b => by cases p; exact b; exact a
  have hw : ∀ {a d : Bn}, Fi a → Fi d → Fi (withB a d) := fun {a d} ha hd => ⟨hi hd.x ha.x, hi hd.y ha.y, hi hd.vx ha.vx, hi hd.vy ha.vy, hi hd.h ha.h, hi hd.l ha.l⟩
  unfold Sy.obey
  split
  · split
    · exact ⟨fit0, fit0, fit0, fit0, fit0, fit0⟩
    · split
      · exact hw h hc
      · split
        · unfold withoutB
          exact ⟨hi fit0 h.x, hi fit0 h.y, hi fit0 h.vx, hi fit0 h.vy, hi fit0 h.h, hi fit0 h.l⟩
        · exact h
  · exact h
theorem into_fit {n m : Int} (h0 : 0 ≤ m) (h1 : m ≤ 1073741824) : Fit (Zn.into n m) := by
  unfold Zn.into Fit
  omega
theorem move_fi {C R S D V : Int} (ok : Zn.Ok C R S D V) {b : Bn} (h : Fi b) : Fi (Sy.move C R S V b) := by
  have a1 := Zn.mul4 (S := S) (show 0 ≤ C by have := ok.c0; omega) ok.c1
  have a3 := Zn.mul4 (S := S) (show 0 ≤ R by have := ok.r0; omega) ok.r1
  have s0 := ok.s0
  have s1 := ok.s1
  have e : ∀ d : Bn, Fi d → Fi { d with x := Zn.into d.x (C * S), y := Zn.into d.y (R * S) } := fun d hd => ⟨into_fit (by omega) (by omega), into_fit (by omega) (by omega), hd.vx, hd.vy, hd.h, hd.l⟩
  refine e _ ?_
  have hc : ∀ n, Fit (Rc.clamp n) := fun n => by have := Sy.clamp_bd n; unfold Fit; omega
  unfold Sy.push
  split
  · exact ⟨hc _, hc _, h.vx, h.vy, h.h, h.l⟩
  · exact h
/-! ### what is done to each, the dead one behind another -/
def kept (f : Bn → Bn × Bool) (l : List Bn) : List Bn := l.filterMap fun b => if (f b).2 then some (f b).1 else none
def lost (f : Bn → Bn × Bool) (l : List Bn) : List K3 := (l.filter fun b => !(f b).2).map Bn.id
theorem kept_take {f : Bn → Bn × Bool} {l : List Bn} {j : Nat} (hj : j < l.length) : kept f (l.take (j + 1)) = if (f l[j]).2 then kept f (l.take j) ++ [(f l[j]).1] else kept f (l.take j) := by
  unfold kept
  rw [List.take_succ_eq_append_getElem hj, List.filterMap_append]
  cases h : (f l[j]).2 <;> simp [h]
theorem lost_take {f : Bn → Bn × Bool} {l : List Bn} {j : Nat} (hj : j < l.length) : lost f (l.take (j + 1)) = if (f l[j]).2 then lost f (l.take j) else lost f (l.take j) ++ [l[j].id] := by
  unfold lost
  rw [List.take_succ_eq_append_getElem hj, List.filter_append]
  cases h : (f l[j]).2 <;> simp [h]
theorem kept_len (f : Bn → Bn × Bool) (l : List Bn) : (kept f l).length ≤ l.length := List.length_filterMap_le _ _
theorem lost_len (f : Bn → Bn × Bool) (l : List Bn) : (lost f l).length ≤ l.length := by
  unfold lost
  rw [List.length_map]
  exact List.length_filter_le _ _
theorem kept_fi {f : Bn → Bn × Bool} {l : List Bn} (hf : ∀ b, Fi b → Fi (f b).1) (h : ∀ b ∈ l, Fi b) : ∀ b ∈ kept f l, Fi b := fun b hb => by
  obtain ⟨c, hc, _, rfl⟩ := mem_each.1 hb
  exact hf c (h c hc)
theorem mem_lost {f : Bn → Bn × Bool} {l : List Bn} {k : K3} : k ∈ lost f l ↔ ∃ b ∈ l, b.id = k ∧ (f b).2 = false := by
  unfold lost
  rw [List.mem_map]
  constructor
  · rintro ⟨b, hb, rfl⟩
    obtain ⟨h1, h2⟩ := List.mem_filter.1 hb
    exact ⟨b, h1, rfl, by simpa using h2⟩
  · rintro ⟨b, hb, rfl, h⟩
    exact ⟨b, List.mem_filter.2 ⟨hb, by simpa using h⟩, rfl⟩
/-- alike: the same entities; the same names among the dead -/
structure Lk (s t : St) : Prop where
  own : s.1 = t.1
  dead : ∀ k, k ∈ s.2 ↔ k ∈ t.2
def eachC (f : Bn → Bn × Bool) (s : St) : St := (kept f s.1, s.2 ++ lost f s.1)
theorem Lk.each {f : Bn → Bn × Bool} {s t : St} (h : Lk s t) : Lk (eachC f s) (each f t) := by
  refine ⟨by unfold eachC Tk.each kept; rw [h.own], fun k => ?_⟩
  unfold eachC Tk.each
  dsimp only
  rw [List.mem_append, mem_dead, mem_lost, h.own, h.dead]
/-! ### one more -/
theorem find_none {l : List Bn} (h : Up l) (k : K3) : foundAt l k = false ↔ at_ l k = none := by
  rw [at_none]
  induction l with
  | nil => exact ⟨fun _ x hx => by simp at hx, fun _ => rfl⟩
  | cons y r ih =>
    unfold Up at h
    rw [List.pairwise_cons] at h
    have ih := ih h.2
    cases hb : before y.id k with
    | true =>
      have e : foundAt (y :: r) k = foundAt r k := by
        unfold foundAt findAt
        rw [List.takeWhile_cons, hb, if_pos rfl, List.length_cons, List.getElem?_cons_succ]
      rw [e, ih]
      constructor
      · intro h1 x hx
        rcases List.mem_cons.1 hx with rfl | hx
        · intro e; rw [e, before_irr] at hb; cases hb
        · exact h1 x hx
      · intro h1 x hx
        exact h1 x (List.mem_cons_of_mem _ hx)
    | false =>
      have e : foundAt (y :: r) k = sameID y.id k := by
        unfold foundAt findAt
        rw [List.takeWhile_cons, hb]
        rfl
      rw [e]
      have hs : sameID y.id k = decide (y.id = k) := by
        obtain ⟨k1, k2, k3⟩ := k
        unfold sameID Bn.id
        rw [Bool.eq_iff_iff]
        simp
      rw [hs, decide_eq_false_iff_not]
      constructor
      · intro h1 x hx
        rcases List.mem_cons.1 hx with rfl | hx
        · exact h1
        · intro e2
          have := h.1 x hx
          rw [e2] at this
          exact h1 (same_of hb (before_asym this)).symm
      · intro h1
        exact h1 y List.mem_cons_self
theorem put_at {l : List Bn} (h : Up l) {b : Bn} (hn : at_ l b.id = none) : put l b = l.take (findAt l b.id) ++ b :: l.drop (findAt l b.id) := by
  unfold put
  have key : ∀ (r : List Bn), Up r → (∀ x ∈ r, x.id ≠ b.id) → r.filter (fun x => before x.id b.id) = r.take (findAt r b.id) ∧ r.filter (fun x => before b.id x.id) = r.drop (findAt r b.id) := by
    intro r
    induction r with
    | nil => intro _ _; exact ⟨by simp, by simp⟩
    | cons y r ih =>
      intro hr hx
      unfold Up at hr
      rw [List.pairwise_cons] at hr
      obtain ⟨i1, i2⟩ := ih hr.2 fun x h => hx x (List.mem_cons_of_mem _ h)
      cases hb : before y.id b.id with
      | true =>
        have e : findAt (y :: r) b.id = findAt r b.id + 1 := by unfold findAt; rw [List.takeWhile_cons, hb, if_pos rfl, List.length_cons]
        rw [e, List.filter_cons, if_pos hb, List.filter_cons, if_neg (by rw [before_asym hb]; decide), i1, i2]
        exact ⟨rfl, rfl⟩
      | false =>
        have e : findAt (y :: r) b.id = 0 := by unfold findAt; rw [List.takeWhile_cons, hb]; rfl
        have hy : before b.id y.id = true := by
          cases h2 : before b.id y.id with
          | true => rfl
          | false => exact absurd (same_of h2 hb) (hx y List.mem_cons_self)
        rw [e, List.take_zero, List.drop_zero]
        constructor
        · rw [List.filter_eq_nil_iff]
          intro z hz
          rcases List.mem_cons.1 hz with rfl | hz
          · rw [hb]; decide
          · have := hr.1 z hz
            rw [before_asym (before_trans hy this)]
            decide
        · rw [List.filter_eq_self]
          intro z hz
          rcases List.mem_cons.1 hz with rfl | hz
          · exact hy
          · exact before_trans hy (hr.1 z hz)
  obtain ⟨e1, e2⟩ := key l h (at_none.1 hn)
  rw [e1, e2]
def ins (l : List Bn) (b : Bn) : List Bn := l.take (findAt l b.id) ++ b :: l.drop (findAt l b.id)
theorem ins_len (l : List Bn) (b : Bn) : (ins l b).length = l.length + 1 := by
  unfold ins
  rw [List.length_append, List.length_cons, List.length_take, List.length_drop]
  have := findAt_le l b.id
  omega
/-- what a command does, as the code says it -/
def cmdC (C R S z : Int) (s : St) (c : Cn) : St := if c.k = 1 then (if foundAt s.1 c.b.id = false ∧ inZone C R S z c.b = true then (ins s.1 c.b, s.2) else s) else eachC (obeys c) s
theorem Lk.cmd {C R S z : Int} {s t : St} (h : Lk s t) (ok : Ok t) (c : Cn) : Lk (cmdC C R S z s c) (Tk.cmd C R S z t c) := by
  unfold cmdC Tk.cmd
  split
  · rw [h.own]
    by_cases h1 : foundAt t.1 c.b.id = false ∧ inZone C R S z c.b = true
    · have h2 := (find_none ok.up c.b.id).1 h1.1
      rw [if_pos h1, if_pos ⟨h2, h1.2⟩]
      refine ⟨?_, h.dead⟩
      show ins t.1 c.b = put t.1 c.b
      unfold ins
      rw [put_at ok.up h2]
    · rw [if_neg h1, if_neg (fun h2 => h1 ⟨(find_none ok.up c.b.id).2 h2.1, h2.2⟩)]
      exact h
  · exact h.each
def cmdsC (C R S z : Int) (s : St) (cs : List Cn) : St := cs.foldl (cmdC C R S z) s
theorem cmdsC_take {C R S z : Int} {s : St} {cs : List Cn} {j : Nat} (hj : j < cs.length) : cmdsC C R S z s (cs.take (j + 1)) = cmdC C R S z (cmdsC C R S z s (cs.take j)) cs[j] := by
  unfold cmdsC
  rw [List.take_succ_eq_append_getElem hj, List.foldl_append]
  rfl
theorem Lk.cmds {C R S z : Int} : ∀ (cs : List Cn) {s t : St}, Lk s t → Ok t → Lk (cmdsC C R S z s cs) (Tk.cmds C R S z t cs)
  | [], _, _, h, _ => h
  | c :: cs, _, _, h, ok => Lk.cmds cs (h.cmd ok c) (cmd_ok ok c)
def runC (C R S D V z : Int) (own near : List Bn) (cs : List Cn) : St := eachC (ends C R S V) (cmdsC C R S z (eachC (hurts (Sy.hits D own near)) (sortL Bn.id own, [])) cs)
theorem run_like (C R S D V z : Int) {own : List Bn} (hu : Un own) (near : List Bn) (cs : List Cn) : Lk (runC C R S D V z own near cs) (runS C R S D V z own near cs) :=
  ((Lk.each ⟨rfl, fun _ => Iff.rfl⟩).cmds cs (start_ok D hu near)).each
/-! ### how many, and their numbers -/
structure Bd (n : Nat) (s : St) : Prop where
  own : s.1.length ≤ n
  all : s.1.length + s.2.length ≤ n
  fi : ∀ b ∈ s.1, Fi b
theorem kept_lost (f : Bn → Bn × Bool) (l : List Bn) : (kept f l).length + (lost f l).length = l.length := by
  induction l with
  | nil => rfl
  | cons x l ih =>
    unfold kept lost at *
    rw [List.filterMap_cons, List.filter_cons]
    cases h : (f x).2
    · simp only [h, Bool.not_false, Bool.false_eq_true, if_false, if_true, List.map_cons, List.length_cons]
      omega
    · simp only [h, Bool.not_true, Bool.false_eq_true, if_false, if_true, List.length_cons]
      omega
theorem Bd.each {n : Nat} {s : St} (h : Bd n s) {f : Bn → Bn × Bool} (hf : ∀ b, Fi b → Fi (f b).1) : Bd n (eachC f s) := by
  have h1 := kept_lost f s.1
  have h2 := h.own
  have h3 := h.all
  refine ⟨?_, ?_, kept_fi hf h.fi⟩
  · show (kept f s.1).length ≤ n
    omega
  · show (kept f s.1).length + (s.2 ++ lost f s.1).length ≤ n
    rw [List.length_append]
    omega
theorem Bd.cmd {n : Nat} {s : St} (h : Bd n s) (C R S z : Int) {c : Cn} (hc : Fi c.b) : Bd (n + 1) (cmdC C R S z s c) := by
  have h2 := h.own
  have h3 := h.all
  unfold cmdC
  split
  · split
    · have e := ins_len s.1 c.b
      refine ⟨?_, ?_, fun b hb => ?_⟩
      · show (ins s.1 c.b).length ≤ n + 1
        omega
      · show (ins s.1 c.b).length + s.2.length ≤ n + 1
        omega
      · rcases List.mem_append.1 hb with hb | hb
        · exact h.fi b (List.mem_of_mem_take hb)
        · rcases List.mem_cons.1 hb with rfl | hb
          · exact hc
          · exact h.fi b (List.mem_of_mem_drop hb)
    · exact ⟨by omega, by omega, h.fi⟩
  · have := h.each (f := obeys c) fun b hb => obey_fi hb hc _ _ _
    exact ⟨by have := this.own; omega, by have := this.all; omega, this.fi⟩
theorem Bd.cmds {C R S z : Int} : ∀ (cs : List Cn) {n : Nat} {s : St}, Bd n s → (∀ c ∈ cs, Fi c.b) → Bd (n + cs.length) (cmdsC C R S z s cs)
  | [], _, _, h, _ => h
  | c :: cs, n, _, h, hc => by
    have := Bd.cmds (C := C) (R := R) (S := S) (z := z) cs (h.cmd C R S z (hc c List.mem_cons_self)) fun d hd => hc d (List.mem_cons_of_mem _ hd)
    rw [List.length_cons, Nat.add_comm cs.length 1, ← Nat.add_assoc]
    exact this
/-! ### names, each once -/
/-- of a row in order each one once: not where it is as the one ahead of it -/
def dd : List K3 → List K3
  | [] => []
  | [a] => [a]
  | a :: b :: l => if a = b then dd (b :: l) else a :: dd (b :: l)
theorem mem_dd {x : K3} : ∀ {l : List K3}, x ∈ dd l ↔ x ∈ l
  | [] => Iff.rfl
  | [a] => Iff.rfl
  | a :: b :: l => by
    have ih := mem_dd (x := x) (l := b :: l)
    unfold dd
    split
    · rename_i h
      subst h
      rw [ih]
      simp
    · rw [List.mem_cons, ih, List.mem_cons (b := a)]
theorem dd_rise : ∀ {l : List K3}, (l.Pairwise fun a b => before b a = false) → Rise (dd l)
  | [], _ => List.Pairwise.nil
  | [a], _ => List.pairwise_singleton _ _
  | a :: b :: l, h => by
    rw [List.pairwise_cons] at h
    have ih := dd_rise (l := b :: l) h.2
    unfold dd
    split
    · exact ih
    · rename_i hne
      unfold Rise
      rw [List.pairwise_cons]
      refine ⟨fun y hy => ?_, ih⟩
      have hb : before a b = true := by
        cases e : before a b with
        | true => rfl
        | false => exact absurd (same_of e (h.1 b List.mem_cons_self)).symm hne
      rcases List.mem_cons.1 (mem_dd.1 hy) with rfl | hy
      · exact hb
      · have h2 := (List.pairwise_cons.1 h.2).1 y hy
        cases e : before a y with
        | true => rfl
        | false =>
          exfalso
          have h3 := h.1 y (List.mem_cons_of_mem _ hy)
          have e2 := same_of e h3
          subst e2
          rw [hb] at h2
          cases h2
theorem dd_snoc (x y : K3) : ∀ (l : List K3), dd (l ++ [x, y]) = if x = y then dd (l ++ [x]) else dd (l ++ [x]) ++ [y]
  | [] => by
    show dd [x, y] = if x = y then dd [x] else dd [x] ++ [y]
    unfold dd
    split
    · rename_i h; subst h; rfl
    · rfl
  | [a] => by
    have ih := dd_snoc x y []
    simp only [List.nil_append] at ih
    show dd (a :: x :: [y]) = if x = y then dd (a :: x :: []) else dd (a :: x :: []) ++ [y]
    have e : dd [a, x] = if a = x then dd [x] else a :: dd [x] := rfl
    have e1 : dd [a, x, y] = if a = x then dd [x, y] else a :: dd [x, y] := rfl
    rw [e, e1, ih]
    by_cases h1 : a = x <;> by_cases h2 : x = y <;> simp [h1, h2]
  | a :: b :: l => by
    have ih := dd_snoc x y (b :: l)
    simp only [List.cons_append] at ih ⊢
    rw [dd, dd, ih]
    by_cases h1 : a = b <;> by_cases h2 : x = y <;> simp [h1, h2]
theorem dd_take {l : List K3} {j : Nat} (h0 : 0 < j) (hj : j < l.length) : dd (l.take (j + 1)) = if l[j - 1] = l[j] then dd (l.take j) else dd (l.take j) ++ [l[j]] := by
  obtain ⟨i, rfl⟩ : ∃ i, j = i + 1 := ⟨j - 1, by omega⟩
  rw [List.take_succ_eq_append_getElem hj, List.take_succ_eq_append_getElem (show i < l.length by omega), List.append_assoc]
  exact dd_snoc _ _ _
theorem dd_len : ∀ (l : List K3), (dd l).length ≤ l.length
  | [] => Nat.le_refl _
  | [_] => Nat.le_refl _
  | a :: b :: l => by
    have := dd_len (b :: l)
    unfold dd
    split
    · rw [List.length_cons]; omega
    · rw [List.length_cons, List.length_cons]; omega
/-- the names of the dead in order, each once -/
theorem names_are {d t : List K3} {u : List K3} (hu : u.Perm d) (hs : u.Pairwise fun a b => before b a = false) (ht : Rise t) (h : ∀ k, k ∈ d ↔ k ∈ t) : dd u = t :=
  rise_ext (dd_rise hs) ht fun k => by rw [mem_dd, hu.mem_iff, h]
end Tk
end Go.Proofs.YtljaahemlcaffaaGreat
