/- A tick over lists of entities: the world falls apart into its zones. Nothing of the program. A tick over lists of entities: all zones' ticks together. Nothing of the program. A tick over lists of entities: who stays stands in the zone, who goes stands in one beside it; what is left may be. Nothing of the program. The document's Gap, Zone, Of, In: what they answer. -/
import Derived.Test.YtljaahemlcaffaaGreatK28
import Derived.Test.YtljaahemlcaffaaGreatK13
import Derived.Test.YtljaahemlcaffaaGreatK18
namespace Go.Proofs.YtljaahemlcaffaaGreat
open Go Pz
set_option linter.unusedVariables false

namespace Tk
/-! ### who lies near is all that matters -/
theorem gap_far {C R S D V k : Int} (ok : Zn.Ok C R S D V) (hk : Zn.There C R k) {bx by_ : Int} (hb : Zn.of C R S bx by_ = k) (x y : Int) : Zn.gapZ C R S k x y ≤ Rc.far bx by_ x y := by
  obtain ⟨a, b, x0, x1, y0, y1⟩ := Zn.of_yes ok (x := bx) (y := by_) (by rw [hb]; exact hk)
  rw [hb] at a b
  have cx := (Zn.div_is ok.s0).1 a.symm
  have cy := (Zn.div_is ok.s0).1 b.symm
  have zb := Zn.zone_bd ok hk
  rw [Zn.gap_is ok hk]
  unfold Rc.far Rc.dist Rc.out Rc.clamp
  omega
def ownZ (C R S z : Int) (l : List Bn) : List Bn := l.filter fun b => decide (Zn.of C R S b.x b.y = z)
def nearZ (C R S D z : Int) (l : List Bn) : List Bn := l.filter fun b => !decide (Zn.of C R S b.x b.y = z) && decide (Zn.gapZ C R S z b.x b.y ≤ D)
theorem shares_part (b : Bn) (r : Int) (p q : Bn → Bool) : ∀ l : List Bn, (∀ c ∈ l, p c = false → q c = false → Sy.share b r c = 0) → Sy.shares b r (l.filter p) + Sy.shares b r (l.filter fun c => !p c && q c) = Sy.shares b r l
  | [], _ => rfl
  | c :: l, h => by
    have ih := shares_part b r p q l fun x hx => h x (List.mem_cons_of_mem _ hx)
    have e : Sy.shares b r (c :: l) = Sy.share b r c + Sy.shares b r l := by simp [Sy.shares]
    have hc := h c List.mem_cons_self
    rw [List.filter_cons, List.filter_cons, e]
    cases h1 : p c with
    | true =>
      simp only [if_true, Bool.not_true, Bool.false_and, Bool.false_eq_true, if_false]
      have e2 : Sy.shares b r (c :: l.filter p) = Sy.share b r c + Sy.shares b r (l.filter p) := by simp [Sy.shares]
      omega
    | false =>
      cases h2 : q c with
      | true =>
        simp only [Bool.false_eq_true, if_false, Bool.not_false, Bool.true_and, if_true]
        have e2 : Sy.shares b r (c :: l.filter fun c => !p c && q c) = Sy.share b r c + Sy.shares b r (l.filter fun c => !p c && q c) := by simp [Sy.shares]
        omega
      | false =>
        simp only [Bool.false_eq_true, if_false, Bool.not_false, Bool.true_and]
        have := hc h1 h2
        omega
theorem takes_near {C R S D V z : Int} (ok : Zn.Ok C R S D V) (hz : Zn.There C R z) {l : List Bn} (hm : ∀ c ∈ l, may c = true) (hn : l.length ≤ 60) {b : Bn} (hb : Zn.of C R S b.x b.y = z) :
    Sy.takes b D (Sy.takes b D 0 (ownZ C R S z l)) (nearZ C R S D z l) = Sy.takes b D 0 l := by
  have h1 : ∀ c ∈ ownZ C R S z l, may c = true := fun c hc => hm c (List.mem_filter.1 hc).1
  have h2 : ∀ c ∈ nearZ C R S D z l, may c = true := fun c hc => hm c (List.mem_filter.1 hc).1
  have l1 : (ownZ C R S z l).length ≤ l.length := List.length_filter_le _ _
  have l2 : (nearZ C R S D z l).length ≤ l.length := List.length_filter_le _ _
  have sp : ∀ {k : List Bn}, (∀ c ∈ k, may c = true) → 0 ≤ Sy.shares b D k ∧ Sy.shares b D k ≤ 1024 * k.length := fun {k} hk => by
    induction k with
    | nil => simp [Sy.shares]
    | cons c k ih =>
      have h1 := Sy.share_bd (hk c List.mem_cons_self) b D
      have h2 := ih fun y hy => hk y (List.mem_cons_of_mem _ hy)
      have e : Sy.shares b D (c :: k) = Sy.share b D c + Sy.shares b D k := by simp [Sy.shares]
      rw [e, List.length_cons]
      omega
  have s1 := sp h1
  have part := shares_part b D (fun c => decide (Zn.of C R S c.x c.y = z)) (fun c => decide (Zn.gapZ C R S z c.x c.y ≤ D)) l fun c hc e1 e2 => by
    have e2 : ¬ Zn.gapZ C R S z c.x c.y ≤ D := by simpa using e2
    have g := gap_far ok hz hb c.x c.y
    unfold Sy.share Sy.meets
    rw [decide_eq_false (show ¬ Rc.far b.x b.y c.x c.y ≤ D by omega)]
    simp
  rw [Sy.takes_sum 0 h1 (by omega) (by omega), Sy.takes_sum _ h2 (by omega) (by omega), Sy.takes_sum 0 hm (by omega) (by omega)]
  have part : Sy.shares b D (ownZ C R S z l) + Sy.shares b D (nearZ C R S D z l) = Sy.shares b D l := part
  omega
theorem find_fm {f : Bn → Option Ht} (hf : Sy.Named f) {b : Bn} : ∀ {l : List Bn}, Un l → b ∈ l → (l.filterMap f).find? (fun h => decide (h.1 = b.id)) = f b
  | [], _, h => by cases h
  | x :: l, hu, hb => by
    unfold Un at hu
    rw [List.map_cons, List.nodup_cons] at hu
    rcases List.mem_cons.1 hb with rfl | hb
    · have rest : ∀ y ∈ l.filterMap f, y.1 ≠ b.id := fun y hy e => by
        obtain ⟨c, hc, ec⟩ := List.mem_filterMap.1 hy
        exact hu.1 (List.mem_map.2 ⟨c, hc, by rw [← hf c y ec, e]⟩)
      cases e : f b with
      | none =>
        rw [List.filterMap_cons_none e, List.find?_eq_none]
        intro y hy
        simpa using rest y hy
      | some y =>
        rw [List.filterMap_cons_some e, List.find?_cons_of_pos]
        simpa using hf b y e
    · have hne : x.id ≠ b.id := fun e => hu.1 (List.mem_map.2 ⟨b, hb, e.symm⟩)
      have ih := find_fm hf (l := l) hu.2 hb
      cases e : f x with
      | none => rw [List.filterMap_cons_none e, ih]
      | some y =>
        rw [List.filterMap_cons_some e, List.find?_cons_of_neg, ih]
        have := hf x y e
        simpa [this] using hne
theorem hit_is {r : Int} {own others : List Bn} (hu : Un own) {b : Bn} (hb : b ∈ own) : hit (Sy.hits r own others) b.id = match Sy.hitOf r own others b with | some h => h.2 | none => 0 := by
  unfold hit Sy.hits
  rw [find_fm (Sy.hitOf_named r own others) (un_perm (Sy.sort_perm own).symm hu) ((Sy.sort_perm own).mem_iff.2 hb)]
  cases Sy.hitOf r own others b <;> rfl
theorem hurts_near {C R S D V z : Int} (ok : Zn.Ok C R S D V) (hz : Zn.There C R z) {l : List Bn} (hu : Un l) (hm : ∀ c ∈ l, may c = true) (hn : l.length ≤ 60) {b : Bn} (hl : b ∈ l) (hb : Zn.of C R S b.x b.y = z) :
    hurts (Sy.hits D (ownZ C R S z l) (nearZ C R S D z l)) b = hurts (Sy.hits D l []) b := by
  have hu2 : Un (ownZ C R S z l) := List.Nodup.sublist (List.filter_sublist.map Bn.id) hu
  have e : Sy.hitOf D (ownZ C R S z l) (nearZ C R S D z l) b = Sy.hitOf D l [] b := by
    unfold Sy.hitOf
    rw [takes_near ok hz hm hn hb, show Sy.takes b D (Sy.takes b D 0 l) [] = Sy.takes b D 0 l from rfl]
  unfold hurts
  rw [hit_is hu2 (List.mem_filter.2 ⟨hl, by simpa using hb⟩), hit_is hu hl, e]
/-! ### each name has its zone -/
theorem cmdsK_same {C R S z z' : Int} {k : K3} : ∀ {cs : List Cn} (v : Vw), (∀ c ∈ cs, begins k c = true → inZone C R S z c.b = inZone C R S z' c.b) → cmdsK C R S z k v cs = cmdsK C R S z' k v cs
  | [], _, _ => rfl
  | c :: cs, v, h => by
    have e : (if owner c = k then cmdK C R S z c v else v) = (if owner c = k then cmdK C R S z' c v else v) := by
      by_cases ho : owner c = k
      · rw [if_pos ho, if_pos ho]
        unfold cmdK
        by_cases hk : c.k = 1
        · rw [if_pos hk, if_pos hk, h c List.mem_cons_self (by rw [begins, decide_eq_true hk]; rw [owner, if_pos hk] at ho; rw [decide_eq_true ho]; rfl)]
        · rw [if_neg hk, if_neg hk]
      · rw [if_neg ho, if_neg ho]
    show cmdsK C R S z k (if owner c = k then cmdK C R S z c v else v) cs = cmdsK C R S z' k (if owner c = k then cmdK C R S z' c v else v) cs
    rw [e]
    exact cmdsK_same (cs := cs) _ fun x hx => h x (List.mem_cons_of_mem _ hx)
/-- the ticks of one zone, and of the whole -/
def zoneS (C R S D V : Int) (l : List Bn) (cs : List Cn) (z : Int) : St := runS C R S D V z (ownZ C R S z l) (nearZ C R S D z l) cs
theorem told_part {C R S : Int} {l : List Bn} {cs : List Cn} (h : Told l cs) (z : Int) : Told (ownZ C R S z l) cs := by
  refine ⟨List.Nodup.sublist (List.filter_sublist.map Bn.id) h.un, fun c hc hk => at_none.2 fun x hx => ?_, h.fresh⟩
  exact at_none.1 (h.new c hc hk) x (List.mem_filter.1 hx).1
theorem inZone_one {C R S D V : Int} (ok : Zn.Ok C R S D V) {b : Bn} {z : Int} (hz : 0 ≤ z) : inZone C R S z b = true ↔ Zn.of C R S b.x b.y = z := by
  unfold inZone
  simp only [Bool.and_eq_true, Bool.or_eq_true, decide_eq_true_eq]
  omega
theorem inZone_all {C R S : Int} {b : Bn} : inZone C R S (-1) b = true ↔ 0 ≤ Zn.of C R S b.x b.y := by
  unfold inZone
  simp
theorem home {C R S D V : Int} (ok : Zn.Ok C R S D V) {l : List Bn} {cs : List Cn} (h : Told l cs) (hm : ∀ c ∈ l, may c = true) (hw : ∀ c ∈ l, Zn.There C R (Zn.of C R S c.x c.y)) (hn : l.length ≤ 60) (k : K3) :
    (∃ z, Zn.There C R z ∧ view (zoneS C R S D V l cs z) k = view (runS C R S D V (-1) l [] cs) k ∧ ∀ z', 0 ≤ z' → z' ≠ z → Blank (view (zoneS C R S D V l cs z') k)) ∨
    ((∀ z', 0 ≤ z' → Blank (view (zoneS C R S D V l cs z') k)) ∧ Blank (view (runS C R S D V (-1) l [] cs) k)) := by
  cases ha : at_ l k with
  | some b =>
    obtain ⟨hb, hk⟩ := (at_iff h.un).1 ha
    have nob : ∀ c ∈ cs, begins k c = false := fun c hc => by
      cases e : begins k c with
      | false => rfl
      | true =>
        rw [begins, Bool.and_eq_true] at e
        obtain ⟨d1, d2⟩ := e
        have := h.new c hc (by simpa using d1)
        rw [show c.b.id = k by simpa using d2, ha] at this
        cases this
    refine .inl ⟨Zn.of C R S b.x b.y, hw b hb, ?_, fun z' hz' hne => ?_⟩
    · have hp := told_part (C := C) (R := R) (S := S) h (Zn.of C R S b.x b.y)
      unfold zoneS
      rw [run_view C R S D V _ hp.un, run_view C R S D V _ h.un]
      have hat : at_ (ownZ C R S (Zn.of C R S b.x b.y) l) k = some b := (at_iff hp.un).2 ⟨List.mem_filter.2 ⟨hb, by simp⟩, hk⟩
      rw [hat, ha]
      have e : eachK (hurts (Sy.hits D (ownZ C R S (Zn.of C R S b.x b.y) l) (nearZ C R S D (Zn.of C R S b.x b.y) l))) (some b, false) = eachK (hurts (Sy.hits D l [])) (some b, false) := by
        unfold eachK
        dsimp only
        rw [hurts_near ok (hw b hb) h.un hm hn hb rfl]
      rw [e]
      exact congrArg _ (cmdsK_same _ fun c hc hbg => by rw [nob c hc] at hbg; cases hbg)
    · refine run_blank (told_part h z') ?_
      rintro (⟨c, hc, e⟩ | ⟨c, hc, c1, c2, _⟩)
      · obtain ⟨hc1, hc2⟩ := List.mem_filter.1 hc
        have : c = b := h.un.eq hc1 hb (by rw [e, hk])
        subst this
        simp only [decide_eq_true_eq] at hc2
        exact hne hc2.symm
      · have := nob c hc
        rw [begins, decide_eq_true c1, decide_eq_true c2] at this
        cases this
  | none =>
    have nol : ∀ {z : Int}, ∀ b ∈ ownZ C R S z l, b.id ≠ k := fun {z} b hb => at_none.1 ha b (List.mem_filter.1 hb).1
    by_cases hsp : ∃ c ∈ cs, begins k c = true ∧ 0 ≤ Zn.of C R S c.b.x c.b.y
    · obtain ⟨c, hc, hbg, hof⟩ := hsp
      have hth : Zn.There C R (Zn.of C R S c.b.x c.b.y) := by
        rcases Zn.of_bd ok c.b.x c.b.y with e | e
        · omega
        · exact e
      -- there is just one
      have one : ∀ d ∈ cs, begins k d = true → d.b = c.b := fun d hd hd2 => by
        rw [begins, Bool.and_eq_true] at hbg hd2
        simp only [decide_eq_true_eq] at hbg hd2
        have hf := h.fresh
        have key : ∀ {cs : List Cn}, Fresh cs → c ∈ cs → d ∈ cs → d.b = c.b := fun {cs} hf hc hd => by
          induction cs with
          | nil => cases hc
          | cons x r ih =>
            unfold Fresh at hf
            rw [List.pairwise_cons] at hf
            rcases List.mem_cons.1 hc with e1 | hc
            · rcases List.mem_cons.1 hd with e2 | hd
              · rw [e1, e2]
              · exact absurd (by rw [← e1, hbg.2, hd2.2]) (hf.1 d hd (by rw [← e1]; exact hbg.1) hd2.1)
            · rcases List.mem_cons.1 hd with e2 | hd
              · exact absurd (by rw [← e2, hbg.2, hd2.2]) (hf.1 c hc (by rw [← e2]; exact hd2.1) hbg.1)
              · exact ih hf.2 hc hd
        exact key hf hc hd
      refine .inl ⟨Zn.of C R S c.b.x c.b.y, hth, ?_, fun z' hz' hne => ?_⟩
      · have hp := told_part (C := C) (R := R) (S := S) h (Zn.of C R S c.b.x c.b.y)
        unfold zoneS
        rw [run_view C R S D V _ hp.un, run_view C R S D V _ h.un, ha, at_none.2 nol]
        show eachK _ (cmdsK C R S _ k (none, false) cs) = eachK _ (cmdsK C R S _ k (none, false) cs)
        refine congrArg _ (cmdsK_same _ fun d hd hdb => ?_)
        rw [one d hd hdb, Bool.eq_iff_iff, inZone_one ok hof, inZone_all]
        exact ⟨fun _ => hof, fun _ => rfl⟩
      · refine run_blank (told_part h z') ?_
        rintro (⟨b, hb, e⟩ | ⟨d, hd, d1, d2, d3⟩)
        · exact nol b hb e
        · rw [one d hd (by rw [begins, decide_eq_true d1, decide_eq_true d2]; rfl), inZone_one ok hz'] at d3
          exact hne d3.symm
    · refine .inr ⟨fun z' hz' => run_blank (told_part h z') ?_, run_blank h ?_⟩
      · rintro (⟨b, hb, e⟩ | ⟨d, hd, d1, d2, d3⟩)
        · exact nol b hb e
        · rw [inZone_one ok hz'] at d3
          exact hsp ⟨d, hd, by rw [begins, decide_eq_true d1, decide_eq_true d2]; rfl, by omega⟩
      · rintro (⟨b, hb, e⟩ | ⟨d, hd, d1, d2, d3⟩)
        · exact at_none.1 ha b hb e
        · rw [inZone_all] at d3
          exact hsp ⟨d, hd, by rw [begins, decide_eq_true d1, decide_eq_true d2]; rfl, d3⟩
end Tk
end Go.Proofs.YtljaahemlcaffaaGreat
namespace Go.Proofs.YtljaahemlcaffaaGreat
open Go Pz
set_option linter.unusedVariables false

namespace Tk
def mk (k : K3) : Bn := ⟨k.1, k.2.1, k.2.2, 0, 0, 0, 0, 0, 0, 0, 0⟩
theorem mk_id (k : K3) : (mk k).id = k := rfl
def runZ (C R S D V : Int) (l : List Bn) (cs : List Cn) (n : Nat) : List Bn × List Bn × List K3 := run C R S D V n (ownZ C R S n l) (nearZ C R S D n l) cs
def allN (C R S D V : Int) (l : List Bn) (cs : List Cn) : Nat → List Bn
  | 0 => []
  | n + 1 => (allN C R S D V l cs n ++ (runZ C R S D V l cs n).1) ++ (runZ C R S D V l cs n).2.1
def deadN (C R S D V : Int) (l : List Bn) (cs : List Cn) : Nat → List Bn
  | 0 => []
  | n + 1 => deadN C R S D V l cs n ++ (runZ C R S D V l cs n).2.2.map mk
theorem runZ_is {C R S D V : Int} {l : List Bn} {cs : List Cn} {n : Nat} (hn : (n : Int) < C * R) : runZ C R S D V l cs n = ((zoneS C R S D V l cs n).1.filter (here C R S n), (zoneS C R S D V l cs n).1.filter (fun b => !here C R S n b), (zoneS C R S D V l cs n).2) := by
  unfold runZ run zoneS
  rw [if_pos ⟨by omega, hn⟩]
theorem mem_two {l : List Bn} {p : Bn → Bool} {x : Bn} : x ∈ l ↔ x ∈ l.filter p ∨ x ∈ l.filter fun b => !p b := by
  rw [List.mem_filter, List.mem_filter]
  cases h : p x <;> simp
section
variable {C R S D V : Int} {l : List Bn} {cs : List Cn}
theorem mem_allN {x : Bn} : ∀ {n : Nat}, (n : Int) ≤ C * R → (x ∈ allN C R S D V l cs n ↔ ∃ z : Nat, z < n ∧ x ∈ (zoneS C R S D V l cs z).1)
  | 0, _ => by simp [allN]
  | n + 1, h => by
    have ih := mem_allN (x := x) (n := n) (by omega)
    have e := mem_two (l := (zoneS C R S D V l cs n).1) (p := here C R S n) (x := x)
    rw [allN, List.mem_append, List.mem_append, ih, runZ_is (by omega)]
    dsimp only
    constructor
    · rintro ((⟨z, hz, hx⟩ | hx) | hx)
      · exact ⟨z, by omega, hx⟩
      · exact ⟨n, by omega, e.2 (.inl hx)⟩
      · exact ⟨n, by omega, e.2 (.inr hx)⟩
    · rintro ⟨z, hz, hx⟩
      by_cases hzn : z = n
      · subst hzn
        rcases e.1 hx with h1 | h1
        · exact .inl (.inr h1)
        · exact .inr h1
      · exact .inl (.inl ⟨z, by omega, hx⟩)
theorem mem_deadN {x : Bn} : ∀ {n : Nat}, (n : Int) ≤ C * R → (x ∈ deadN C R S D V l cs n ↔ ∃ z : Nat, z < n ∧ ∃ k ∈ (zoneS C R S D V l cs z).2, mk k = x)
  | 0, _ => by simp [deadN]
  | n + 1, h => by
    have ih := mem_deadN (x := x) (n := n) (by omega)
    rw [deadN, List.mem_append, ih, runZ_is (by omega), List.mem_map]
    dsimp only
    constructor
    · rintro (⟨z, hz, hx⟩ | hx)
      · exact ⟨z, by omega, hx⟩
      · exact ⟨n, by omega, hx⟩
    · rintro ⟨z, hz, hx⟩
      by_cases hzn : z = n
      · subst hzn; exact .inr hx
      · exact .inl ⟨z, by omega, hx⟩
theorem un_app {a b : List Bn} (ha : Un a) (hb : Un b) (h : ∀ x ∈ a, ∀ y ∈ b, x.id ≠ y.id) : Un (a ++ b) := by
  unfold Un at ha hb ⊢
  rw [List.map_append, List.nodup_append]
  refine ⟨ha, hb, fun p hp q hq e => ?_⟩
  obtain ⟨x, hx, ex⟩ := List.mem_map.1 hp
  obtain ⟨y, hy, ey⟩ := List.mem_map.1 hq
  exact h x hx y hy (by rw [ex, ey, e])
theorem zone_ok (h : Told l cs) (z : Int) : Ok (zoneS C R S D V l cs z) := run_ok C R S D V z (told_part h z).un _ cs
theorem ent_view {z : Nat} {x : Bn} (hx : x ∈ (zoneS C R S D V l cs z).1) : ¬ Blank (view (zoneS C R S D V l cs z) x.id) := fun hb => at_none.1 hb.1 x hx rfl
theorem name_view {z : Nat} {k : K3} (hx : k ∈ (zoneS C R S D V l cs z).2) : ¬ Blank (view (zoneS C R S D V l cs z) k) := fun hb => by
  have := hb.2
  simp only [view, decide_eq_false_iff_not] at this
  exact this hx
theorem run_whole (ok : Zn.Ok C R S D V) : run C R S D V (-1) l [] cs = ((runS C R S D V (-1) l [] cs).1, [], (runS C R S D V (-1) l [] cs).2) := by
  have hcr := Zn.mul_bd ok
  unfold run
  rw [if_pos ⟨by omega, by omega⟩]
  have e : here C R S (-1) = fun _ => true := by
    funext b
    unfold here
    simp
  rw [e]
  simp
variable (ok : Zn.Ok C R S D V) (h : Told l cs) (hm : ∀ c ∈ l, may c = true) (hw : ∀ c ∈ l, Zn.There C R (Zn.of C R S c.x c.y)) (hn : l.length ≤ 60)
include ok h hm hw hn
theorem one_zone {z z' : Nat} {k : K3} (h1 : ¬ Blank (view (zoneS C R S D V l cs z) k)) (h2 : ¬ Blank (view (zoneS C R S D V l cs z') k)) : z = z' := by
  rcases home ok h hm hw hn k with ⟨q, _, _, hq⟩ | ⟨hq, _⟩
  · have a : (z : Int) = q := Classical.byContradiction fun e => h1 (hq z (by omega) e)
    have b : (z' : Int) = q := Classical.byContradiction fun e => h2 (hq z' (by omega) e)
    omega
  · exact absurd (hq z (by omega)) h1
theorem un_allN : ∀ {n : Nat}, (n : Int) ≤ C * R → Un (allN C R S D V l cs n)
  | 0, _ => List.nodup_nil
  | n + 1, hN => by
    have ih := un_allN (n := n) (by omega)
    have hu := (zone_ok (C := C) (R := R) (S := S) (D := D) (V := V) h (n : Int)).up.un
    rw [allN, runZ_is (by omega)]
    dsimp only
    rw [List.append_assoc]
    refine un_app ih (un_app (List.Nodup.sublist (List.filter_sublist.map Bn.id) hu) (List.Nodup.sublist (List.filter_sublist.map Bn.id) hu) fun x hx y hy e => ?_) fun x hx y hy e => ?_
    · obtain ⟨x1, x2⟩ := List.mem_filter.1 hx
      obtain ⟨y1, y2⟩ := List.mem_filter.1 hy
      have := hu.eq x1 y1 e
      subst this
      rw [x2] at y2
      cases y2
    · obtain ⟨z, hz, hxz⟩ := (mem_allN (by omega)).1 hx
      have hyn : y ∈ (zoneS C R S D V l cs n).1 := by
        rcases List.mem_append.1 hy with hy | hy
        · exact (List.mem_filter.1 hy).1
        · exact (List.mem_filter.1 hy).1
      have := one_zone ok h hm hw hn (ent_view hxz) (by rw [e]; exact ent_view hyn)
      omega
theorem un_deadN : ∀ {n : Nat}, (n : Int) ≤ C * R → Un (deadN C R S D V l cs n)
  | 0, _ => List.nodup_nil
  | n + 1, hN => by
    have ih := un_deadN (n := n) (by omega)
    have hr := (zone_ok (C := C) (R := R) (S := S) (D := D) (V := V) h (n : Int)).rise
    rw [deadN, runZ_is (by omega)]
    dsimp only
    refine un_app ih ?_ fun x hx y hy e => ?_
    · unfold Un
      rw [List.map_map, show Bn.id ∘ mk = id from rfl, List.map_id]
      exact hr.imp fun h => ne_of_lt h
    · obtain ⟨z, hz, k, hk, rfl⟩ := (mem_deadN (by omega)).1 hx
      obtain ⟨k', hk', rfl⟩ := List.mem_map.1 hy
      have : k = k' := e
      subst this
      have := one_zone ok h hm hw hn (name_view hk) (name_view hk')
      omega
theorem falls_apart {N : Nat} (hN : (N : Int) = C * R) : sortL Bn.id (allN C R S D V l cs N) = (run C R S D V (-1) l [] cs).1 ∧ (run C R S D V (-1) l [] cs).2.1 = [] ∧ sortL Bn.id (deadN C R S D V l cs N) = (run C R S D V (-1) l [] cs).2.2.map mk := by
  have okw := run_ok C R S D V (-1) h.un [] cs
  rw [run_whole ok]
  refine ⟨?_, rfl, ?_⟩
  · have hu := un_allN ok h hm hw hn (n := N) (by omega)
    refine up_ext (sort_up hu) okw.up fun x => ?_
    rw [(Sy.sort_perm _).mem_iff, mem_allN (by omega)]
    have e1 : x ∈ (runS C R S D V (-1) l [] cs).1 ↔ (view (runS C R S D V (-1) l [] cs) x.id).1 = some x := ⟨fun hx => (at_iff okw.up.un).2 ⟨hx, rfl⟩, fun hx => ((at_iff okw.up.un).1 hx).1⟩
    have e2 : ∀ z : Int, x ∈ (zoneS C R S D V l cs z).1 ↔ (view (zoneS C R S D V l cs z) x.id).1 = some x := fun z => ⟨fun hx => (at_iff (zone_ok h z).up.un).2 ⟨hx, rfl⟩, fun hx => ((at_iff (zone_ok h z).up.un).1 hx).1⟩
    rw [e1]
    rcases home ok h hm hw hn x.id with ⟨q, hq, hv, hb⟩ | ⟨hb, hb2⟩
    · rw [← hv]
      constructor
      · rintro ⟨z, hz, hx⟩
        have hx := (e2 z).1 hx
        by_cases e : (z : Int) = q
        · rw [e] at hx; exact hx
        · have := (hb z (by omega) e).1
          rw [this] at hx
          cases hx
      · intro hx
        refine ⟨q.toNat, ?_, ?_⟩
        · have := hq.1; have := hq.2; omega
        · rw [e2, show ((q.toNat : Nat) : Int) = q from Int.toNat_of_nonneg hq.1]
          exact hx
    · constructor
      · rintro ⟨z, hz, hx⟩
        have hx := (e2 z).1 hx
        rw [(hb z (by omega)).1] at hx
        cases hx
      · intro hx
        rw [hb2.1] at hx
        cases hx
  · have hu := un_deadN ok h hm hw hn (n := N) (by omega)
    have hup : Up ((runS C R S D V (-1) l [] cs).2.map mk) := by
      unfold Up
      rw [List.pairwise_map]
      exact okw.rise
    refine up_ext (sort_up hu) hup fun x => ?_
    rw [(Sy.sort_perm _).mem_iff, mem_deadN (by omega), List.mem_map]
    have key : ∀ k, (∃ z : Nat, z < N ∧ k ∈ (zoneS C R S D V l cs z).2) ↔ k ∈ (runS C R S D V (-1) l [] cs).2 := fun k => by
      have e1 : k ∈ (runS C R S D V (-1) l [] cs).2 ↔ (view (runS C R S D V (-1) l [] cs) k).2 = true := by simp [view]
      have e2 : ∀ z : Int, k ∈ (zoneS C R S D V l cs z).2 ↔ (view (zoneS C R S D V l cs z) k).2 = true := fun z => by simp [view]
      rw [e1]
      rcases home ok h hm hw hn k with ⟨q, hq, hv, hb⟩ | ⟨hb, hb2⟩
      · rw [← hv]
        constructor
        · rintro ⟨z, hz, hx⟩
          have hx := (e2 z).1 hx
          by_cases e : (z : Int) = q
          · rw [e] at hx; exact hx
          · rw [(hb z (by omega) e).2] at hx
            cases hx
        · intro hx
          refine ⟨q.toNat, ?_, ?_⟩
          · have := hq.1; have := hq.2; omega
          · rw [e2, show ((q.toNat : Nat) : Int) = q from Int.toNat_of_nonneg hq.1]
            exact hx
      · constructor
        · rintro ⟨z, hz, hx⟩
          have hx := (e2 z).1 hx
          rw [(hb z (by omega)).2] at hx
          cases hx
        · intro hx
          rw [hb2.2] at hx
          cases hx
    constructor
    · rintro ⟨z, hz, k, hk, rfl⟩
      exact ⟨k, (key k).1 ⟨z, hz, hk⟩, rfl⟩
    · rintro ⟨k, hk, rfl⟩
      obtain ⟨z, hz, hk2⟩ := (key k).2 hk
      exact ⟨z, hz, k, hk2, rfl⟩
end
end Tk
end Go.Proofs.YtljaahemlcaffaaGreat
namespace Go.Proofs.YtljaahemlcaffaaGreat
open Go Pz
set_option linter.unusedVariables false

namespace Tk
theorem each_inv {P : Bn → Prop} {f : Bn → Bn × Bool} {s : St} (hf : ∀ b, P b → (f b).2 = true → P (f b).1) (h : ∀ b ∈ s.1, P b) : ∀ b ∈ (each f s).1, P b := fun x hx => by
  obtain ⟨b, hb, h1, rfl⟩ := mem_each.1 hx
  exact hf b (h b hb) h1
/-- it may be, and lies there -/
def At (C R S z : Int) (b : Bn) : Prop := may b = true ∧ Zn.of C R S b.x b.y = z
theorem hurts_at {C R S z : Int} (hs : List Ht) (b : Bn) (h : At C R S z b) (hl : (hurts hs b).2 = true) : At C R S z (hurts hs b).1 := by
  have hm := (Sy.hurt_may h.1 (hit hs b.id)).1
  unfold hurts at hl ⊢
  refine ⟨hm.trans hl, ?_⟩
  have e : (Sy.hurt b (hit hs b.id)).1.x = b.x ∧ (Sy.hurt b (hit hs b.id)).1.y = b.y := by
    unfold Sy.hurt at hl ⊢
    split
    · split
      · rename_i h1 h2; rw [if_pos h1, if_pos h2] at hl; cases hl
      · exact ⟨rfl, rfl⟩
    · exact ⟨rfl, rfl⟩
  rw [e.1, e.2]
  exact h.2
theorem takes_pos {m : Int} (h : takesB m = true) : bitB m 0 = false := by
  unfold takesB at h
  simp only [Bool.and_eq_true, Bool.not_eq_true'] at h
  exact h.2
theorem obeys_at {C R S z : Int} {c : Cn} (hc : mayCmd c = true) (b : Bn) (h : At C R S z b) (hl : (obeys c b).2 = true) : At C R S z (obeys c b).1 := by
  by_cases ho : (c.s, c.i, c.g) = b.id
  · have hm := Sy.obey_may h.1 hc
    unfold obeys at hl ⊢
    rw [ho] at hl ⊢
    refine ⟨hm.trans hl, ?_⟩
    have e : (Sy.obey b c.k b.id c.b c.m).1.x = b.x ∧ (Sy.obey b c.k b.id c.b c.m).1.y = b.y := by
      unfold Sy.obey at hl ⊢
      rw [if_pos rfl] at hl ⊢
      by_cases k2 : c.k = 2
      · rw [if_pos k2] at hl; cases hl
      · rw [if_neg k2]
        unfold mayCmd at hc
        by_cases k3 : c.k = 3
        · rw [if_pos k3]
          rw [if_neg (by omega), if_neg k2, if_pos k3] at hc
          simp only [Bool.and_eq_true] at hc
          have := takes_pos hc.1.2
          unfold withB
          dsimp only
          rw [this]
          exact ⟨rfl, rfl⟩
        · rw [if_neg k3]
          by_cases k4 : c.k = 4
          · rw [if_pos k4]
            rw [if_neg (by omega), if_neg k2, if_neg k3, if_pos k4] at hc
            simp only [Bool.and_eq_true] at hc
            have := takes_pos hc.2
            unfold withoutB
            dsimp only
            rw [this]
            exact ⟨rfl, rfl⟩
          · rw [if_neg k4]
            exact ⟨rfl, rfl⟩
    rw [e.1, e.2]
    exact h.2
  · rw [obeys_other ho]
    exact h
theorem cmd_at {C R S z : Int} (hz : 0 ≤ z) {s : St} {c : Cn} (hc : mayCmd c = true) (h : ∀ b ∈ s.1, At C R S z b) : ∀ b ∈ (cmd C R S z s c).1, At C R S z b := by
  unfold cmd
  by_cases hk : c.k = 1
  · rw [if_pos hk]
    split
    · rename_i hi
      intro b hb
      rcases (mem_put hi.1).1 hb with rfl | hb
      · unfold mayCmd at hc
        rw [if_pos hk] at hc
        simp only [Bool.and_eq_true] at hc
        have h2 := hi.2
        unfold inZone at h2
        simp only [Bool.and_eq_true, Bool.or_eq_true, decide_eq_true_eq] at h2
        exact ⟨hc.2, by omega⟩
      · exact h b hb
    · exact h
  · rw [if_neg hk]
    exact each_inv (fun b hb hl => obeys_at hc b hb hl) h
theorem cmds_at {C R S z : Int} (hz : 0 ≤ z) : ∀ {cs : List Cn} {s : St}, (∀ c ∈ cs, mayCmd c = true) → (∀ b ∈ s.1, At C R S z b) → ∀ b ∈ (cmds C R S z s cs).1, At C R S z b
  | [], _, _, h => h
  | c :: cs, s, hc, h => cmds_at hz (cs := cs) (fun x hx => hc x (List.mem_cons_of_mem _ hx)) (cmd_at hz (hc c List.mem_cons_self) h)
theorem move_may {C R S D V : Int} (ok : Zn.Ok C R S D V) {b : Bn} (h : may b = true) : may (Sy.move C R S V b) = true := by
  have hc := Zn.side_bd (q := C) ok.s0 ok.s1 (by have := ok.c0; omega) ok.c1
  have hr := Zn.side_bd (q := R) ok.s0 ok.s1 (by have := ok.r0; omega) ok.r1
  have em : (Sy.move C R S V b).m = b.m ∧ (Sy.move C R S V b).s = b.s ∧ (Sy.move C R S V b).i = b.i ∧ (Sy.move C R S V b).g = b.g ∧ (Sy.move C R S V b).vx = b.vx ∧ (Sy.move C R S V b).vy = b.vy ∧ (Sy.move C R S V b).h = b.h ∧ (Sy.move C R S V b).p = b.p ∧ (Sy.move C R S V b).l = b.l := by
    unfold Sy.move Sy.push
    split <;> exact ⟨rfl, rfl, rfl, rfl, rfl, rfl, rfl, rfl, rfl⟩
  have ex : ∃ x, (Sy.move C R S V b).x = Zn.into x (C * S) := ⟨_, rfl⟩
  have ey : ∃ y, (Sy.move C R S V b).y = Zn.into y (R * S) := ⟨_, rfl⟩
  obtain ⟨e0, e1, e2, e3, e4, e5, e6, e7, e8⟩ := em
  obtain ⟨x, ex⟩ := ex
  obtain ⟨y, ey⟩ := ey
  simp only [may, Bool.and_eq_true] at h ⊢
  obtain ⟨⟨h1, h2⟩, h3⟩ := h
  obtain ⟨p0, p1, p2, p3, p4, p5, p6, p7⟩ := right_parts h2
  rw [e1, e2, e3, e0]
  refine ⟨⟨h1, ?_⟩, h3⟩
  refine right_of (by rw [e0]; exact p0) ?_ ?_ (by rw [e0, e4]; exact p3) (by rw [e0, e5]; exact p4) (by rw [e0, e6]; exact p5) (by rw [e0, e7]; exact p6) (by rw [e0, e8]; exact p7)
  · rw [e0, h3, ex]
    simp only [inB, if_true, Bool.and_eq_true, decide_eq_true_eq]
    unfold Zn.into
    omega
  · rw [e0, h3, ey]
    simp only [inB, if_true, Bool.and_eq_true, decide_eq_true_eq]
    unfold Zn.into
    omega
theorem run_goes {C R S D V z : Int} (ok : Zn.Ok C R S D V) (hz : 0 ≤ z) {own near : List Bn} {cs : List Cn} (ho : ∀ b ∈ own, At C R S z b) (hc : ∀ c ∈ cs, mayCmd c = true) :
    ∀ b ∈ (runS C R S D V z own near cs).1, may b = true ∧ Zn.There C R (Zn.of C R S b.x b.y) ∧ (Zn.of C R S b.x b.y = z ∨ Zn.of C R S b.x b.y ∈ Zn.beside C R z) := fun x hx => by
  have h0 : ∀ b ∈ (start D own near).1, At C R S z b := by
    unfold start
    exact each_inv (fun b hb hl => hurts_at _ b hb hl) fun b hb => ho b ((Sy.sort_perm own).mem_iff.1 hb)
  have h1 := cmds_at hz (z := z) hc h0
  unfold runS at hx
  obtain ⟨b, hb, hl, rfl⟩ := mem_each.1 hx
  obtain ⟨hm, hof⟩ := h1 b hb
  have hmm := move_may ok hm
  have hst := Sy.stays ok b
  unfold ends at hl ⊢
  have ha := (Sy.age_may hmm).1
  have e : (Sy.age (Sy.move C R S V b)).1.x = (Sy.move C R S V b).x ∧ (Sy.age (Sy.move C R S V b)).1.y = (Sy.move C R S V b).y := by
    unfold Sy.age at hl ⊢
    split
    · split
      · rename_i q1 q2; rw [if_pos q1, if_pos q2] at hl; cases hl
      · exact ⟨rfl, rfl⟩
    · exact ⟨rfl, rfl⟩
  refine ⟨ha.trans hl, ?_⟩
  rw [e.1, e.2]
  refine ⟨hst.1, ?_⟩
  rcases hst.2 with h | h | h
  · rw [hof] at h; omega
  · left; rw [← h, hof]
  · right; rw [hof] at h; exact h
end Tk
end Go.Proofs.YtljaahemlcaffaaGreat
namespace Go.Proofs.YtljaahemlcaffaaGreat
open Go.RowKit
open Zn (Ok There)

/-- the nearest number from lo on and below hi, all clamped -/
theorem zone_i {C R S D V k : Int} (ok : Ok C R S D V) (hk : There C R k) : (I (Zn.zone C R S k).a ∧ I (Zn.zone C R S k).b) ∧ (I (Zn.zone C R S k).c ∧ I (Zn.zone C R S k).d) := by
  have := Zn.zone_bd ok hk
  rw [Zn.zone_yes hk]
  unfold I
  simp only
  omega

theorem near_dist (n lo hi : Int) (h : Rc.clamp lo < Rc.clamp hi) : ∃ m, (m = if Rc.clamp n < Rc.clamp lo then Rc.clamp lo else if Rc.clamp hi ≤ Rc.clamp n then Rc.clamp hi - 1 else Rc.clamp n) ∧ Rc.dist n m = Rc.out n (Rc.clamp lo) (Rc.clamp hi) ∧ (-1073741824 ≤ m ∧ m ≤ 1073741824) := by
  refine ⟨_, rfl, ?_⟩
  have h1 := Rc.clamp_bd n
  have h2 := Rc.clamp_bd lo
  have h3 := Rc.clamp_bd hi
  unfold Rc.dist Rc.out
  generalize Rc.clamp n = a at *
  generalize Rc.clamp lo = b at *
  generalize Rc.clamp hi = c at *
  split
  · rw [Rc.clamp_in (n := b) (by omega) (by omega)]; omega
  · split
    · rw [Rc.clamp_in (n := c - 1) (by omega) (by omega)]; omega
    · rw [Rc.clamp_in (n := a) (by omega) (by omega)]; omega
set_option maxHeartbeats 1000000 in
theorem rnearest_any (n lo hi m : Int) (w : World) (hn : I n) (hl : I lo) (hh : I hi) (hm : Hid (m = if Rc.clamp n < Rc.clamp lo then Rc.clamp lo else if Rc.clamp hi ≤ Rc.clamp n then Rc.clamp hi - 1 else Rc.clamp n)) :
    Calls Tryz.prog 81 #[.int .i64 n, .int .i64 lo, .int .i64 hi] w fun e w' => e = .returned (.int .i64 m) ∧ w = w' := by
  obtain ⟨n0, n1⟩ := hn
  obtain ⟨l0, l1⟩ := hl
  obtain ⟨h0, h1⟩ := hh
  have c3 := Rc.clamp_bd hi
  go_enter Tryz.func81, Tryz.ntmps81
  go_wp2_with (go_at_call 82; refine (rclamp_any _ _ (by omega) (by omega)).mono ?_; rintro e w' ⟨rfl, rfl⟩)
  all_goals
    go_ret
    refine ⟨ret_int ?_, rfl⟩
    rw [hm.out]
    (first | (rw [if_pos (by assumption)]) | (rw [if_neg (by omega), if_pos (by omega)]) | (rw [if_neg (by omega), if_neg (by omega)]))
set_option maxHeartbeats 2000000 in
set_option maxRecDepth 100000 in
theorem rgap_some (a b c d x y : Int) (w : World) (ha : I a) (hb : I b) (hc : I c) (hd : I d) (hx : I x) (hy : I y) (h : ¬ Rc.None a b c d) :
    Calls Tryz.prog 42 #[.agg #[.int .i64 a, .int .i64 b, .int .i64 c, .int .i64 d], .int .i64 x, .int .i64 y] w fun e w' => e = .returned (.int .i64 (Rc.gap a b c d x y)) ∧ Below w.heap.size w w' := by
  have N := Lib.hid (fun W => show Calls Tryz.prog 79 #[.agg #[.int .i64 a, .int .i64 b, .int .i64 c, .int .i64 d]] W fun e w' => (e = .returned (.bool false) ∧ Below W.heap.size W w') by have := rnone_walk a b c d W ha hb hc hd; rwa [Rc.noneB_no h] at this)
  obtain ⟨m, hm, em, mb⟩ := near_dist x a c (by unfold Rc.None at h; omega)
  obtain ⟨n, hn, en, nb⟩ := near_dist y b d (by unfold Rc.None at h; omega)
  have X := Lib.hid (fun W => rnearest_any x a c m W hx ha hc (Lib.hid hm))
  have Y := Lib.hid (fun W => rnearest_any y b d n W hy hb hd (Lib.hid hn))
  have F := Lib.hid (fun W => rfar_any x y m n W hx hy (by unfold I; omega) (by unfold I; omega))
  have e : Rc.far x y m n = Rc.gap a b c d x y := by unfold Rc.far Rc.gap; rw [if_neg h, em, en]
  rw [e] at F
  clear hm hn em en mb nb e ha hb hc hd hx hy h
  generalize Rc.gap a b c d x y = g at *
  go_enter Tryz.func42, Tryz.ntmps42
  go_wp2_with fail
  refine (N.out _).mono ?_
  rintro e w1 ⟨rfl, b1⟩
  have hz := b1.size
  rw [size1] at hz
  have p1 := (b1.block w.heap.size (by rw [size1]; omega)).trans (at1 w _)
  have lt : w.heap.size < w1.heap.size := by omega
  have B1 := Lib.hid ((bel1 w _).trans (b1.mono (by rw [size1]; omega)))
  obtain ⟨k0, k1, k2, k3⟩ := (box4 p1).1
  clear b1 hz p1
  go_wp2_with fail
  refine Og.grow 16 (by kernel_rfl) (by kernel_rfl) fun hc hf => ?_
  simp only [List.take_succ_cons, List.take_zero, List.drop_succ_cons, List.drop_zero]
  repeat (refine Og.det [] rfl (fun K hK => ?_); go_simp; first | (refine hK _ _ ?_; clear hK K) | (with_reducible refine ⟨_, fun p => Og.same (X.out _), hK _ _ ?_⟩; clear hK K) | (with_reducible refine ⟨_, fun p => Og.same (Y.out _), hK _ _ ?_⟩; clear hK K) | (with_reducible refine ⟨_, fun p => Og.same (F.out _), hK _ _ ?_⟩; clear hK K))
  refine Og.fin fun W hW => ?_
  simp only [Og.opened_nil]
  clear hc hf
  go_wp2
  go_ret
  exact ⟨rfl, B1.out.trans (hW.mono B1.out.size)⟩
theorem rgap_zone_any {C R S D V k : Int} (ok : Ok C R S D V) (hk : There C R k) (x y : Int) (hx : I x) (hy : I y) (W : World) :
    Calls Tryz.prog 42 #[.agg #[.int .i64 (Zn.zone C R S k).a, .int .i64 (Zn.zone C R S k).b, .int .i64 (Zn.zone C R S k).c, .int .i64 (Zn.zone C R S k).d], .int .i64 x, .int .i64 y] W fun e w' => e = .returned (.int .i64 (Zn.gapZ C R S k x y)) ∧ Below W.heap.size W w' :=
  rgap_some (Zn.zone C R S k).a (Zn.zone C R S k).b (Zn.zone C R S k).c (Zn.zone C R S k).d x y W (zone_i ok hk).1.1 (zone_i ok hk).1.2 (zone_i ok hk).2.1 (zone_i ok hk).2.2 hx hy (by have := Zn.zone_some ok hk; rw [Zn.zone_yes hk]; exact this)

set_option maxHeartbeats 400000 in
theorem rinto_any (n e : Int) (w : World) (h0 : 0 < e) (h1 : e ≤ 4194304) :
    Calls Tryz.prog 57 #[.int .i64 n, .int .i64 e] w fun x w' => x = .returned (.int .i64 (Zn.into n e)) ∧ w = w' := by
  have E := Lib.hid (show Zn.into n e = if n < 0 then 0 else if e ≤ n then e - 1 else n by unfold Zn.into; split; omega; split <;> omega)
  go_enter Tryz.func57, Tryz.ntmps57
  go_wp2
  all_goals
    go_ret
    refine ⟨ret_int ?_, rfl⟩
    rw [E.out]
    (first | (rw [if_pos (by assumption)]) | (rw [if_neg (by omega), if_pos (by omega)]) | (rw [if_neg (by omega), if_neg (by omega)]))
set_option maxHeartbeats 2000000 in
set_option maxRecDepth 100000 in
theorem rin_any (C R S D V N Q x y : Int) (w : World) (ok : Ok C R S D V) :
    Calls Tryz.prog 30 #[.agg #[.int .i64 C, .int .i64 R, .int .i64 S, .int .i64 D, .int .i64 V, .int .i64 N, .int .i64 Q], .int .i64 x, .int .i64 y] w fun e w' => e = .returned (.tuple #[.int .i64 (Zn.into x (C * S)), .int .i64 (Zn.into y (R * S))]) ∧ Below w.heap.size w w' := by
  have m1 := Zn.side_bd (q := C) ok.s0 ok.s1 (by have := ok.c0; omega) ok.c1
  have m2 := Zn.side_bd (q := R) ok.s0 ok.s1 (by have := ok.r0; omega) ok.r1
  have e1 : 0 < C * S := Int.mul_pos (by have := ok.c0; omega) (by have := ok.s0; omega)
  have e2 : 0 < R * S := Int.mul_pos (by have := ok.r0; omega) (by have := ok.s0; omega)
  have X := Lib.hid (fun W => rinto_any x (C * S) W e1 m1.2)
  have Y := Lib.hid (fun W => rinto_any y (R * S) W e2 m2.2)
  have w0 : IntKind.i64.wrap (C * S) = C * S := IntWalk.i64_in _ ⟨by omega, by omega⟩
  have w1 : IntKind.i64.wrap (R * S) = R * S := IntWalk.i64_in _ ⟨by omega, by omega⟩
  generalize Zn.into x (C * S) = u at *
  generalize Zn.into y (R * S) = v at *
  clear m1 m2 e1 e2 ok
  go_enter Tryz.func30, Tryz.ntmps30
  go_wp2
  refine Og.grow 16 (by kernel_rfl) (by kernel_rfl) fun hc hf => ?_
  simp only [List.take_succ_cons, List.take_zero, List.drop_succ_cons, List.drop_zero]
  repeat (refine Og.det [] rfl (fun K hK => ?_); go_simp; first | (refine hK _ _ ?_; clear hK K) | (with_reducible refine ⟨_, fun p => Og.same (X.out _), hK _ _ ?_⟩; clear hK K) | (with_reducible refine ⟨_, fun p => Og.same (Y.out _), hK _ _ ?_⟩; clear hK K))
  refine Og.fin fun W hW => ?_
  simp only [Og.opened_nil]
  clear hc hf
  go_wp2
  go_ret2
  exact ⟨rfl, (bel1 w _).trans (hW.mono (by rw [size1]; omega))⟩
end Go.Proofs.YtljaahemlcaffaaGreat
