/- A drawn region walked once, its calls and allocations too: each operation of the head is shown to do its part in whatever world of a class, with what it looks at alone; the operations of the tail wait for all of these and come in one order. Nothing of the program. -/
import Derived.Test.YtookmjdnmmfkfaaQt
namespace Go.Proofs.Ytookmjdnmmfkfaa
open Go Go.RowKit

/-- how a world may go on -/
structure Rl where
  r : World → World → Prop
  refl : ∀ w, r w w
  trans : ∀ {a b c}, r a b → r b c → r a c
  drew : ∀ w, r w w.drew
/-- of what was there nothing has turned -/
def grows : Rl where
  r w w' := Below w.heap.size w w'
  refl _ := Below.refl _ _
  trans h k := h.trans (k.mono h.size)
  drew w := (Below.refl _ w).drew
/-- a world that one has gone on to -/
structure Lat (ρ : Rl) (w : World) where
  W : World
  h : ρ.r w W
instance (ρ : Rl) (w : World) : Inhabited (Lat ρ w) := ⟨⟨w, ρ.refl w⟩⟩

namespace Og
/-- what is known of a value that is not told -/
abbrev Ph := Value → World → Prop
variable {P : Program} {ρ : Rl}

/-- what an operation has yielded is such -/
def one (P : Program) (ρ : Rl) (W : World) (φ : Ph) : Result Next → Prop
  | .ok (.value u) W' => ρ.r W W' ∧ φ u W'
  | .ok .skip W' => ρ.r W W' ∧ φ undef W'
  | .ok (.enter f args) W' => Calls P f args W' fun e W'' => ∃ v, e = .returned v ∧ ρ.r W W'' ∧ φ v W''
  | _ => False
/-- the slots that are not told, taken in -/
def opened : List (Nat × Ph) → World → Act → (Act → Prop) → Prop
  | [], _, a, K => K a
  | u :: us, W, a, K => ∀ v, u.2 v W → opened us W (a.put (some u.1) v) K
/-- those of them that the operation looks at -/
def seen (ops : Array Oper) (o : Oper) (U : List (Nat × Ph)) : List (Nat × Ph) := U.filter fun u => (o.looksAt ops).contains u.1
/-- what lasts -/
def Lasts (ρ : Rl) (φ : Ph) : Prop := ∀ v W W', φ v W → ρ.r W W' → φ v W'
def NoBool (φ : Ph) : Prop := ∀ b W, ¬ φ (.bool b) W

/-- the walk of the head, in the text's order -/
def walk (P : Program) (ρ : Rl) (ops : Array Oper) (w : World) (Q : List (Nat × Ph) → Act → Prop) : List Oper → List (Nat × Ph) → Act → Prop
  | [], U, a => Q U a
  | o :: rest, U, a =>
    if Region.wanted o (yielded ops a.tmps) then
      (∃ v, (∀ p : Lat ρ w, opened (seen ops o U) p.W a fun a' => one P ρ p.W (fun u _ => u = v) ((execOp a'.eval o).run P p.W)) ∧ walk P ρ ops w Q rest U (a.put o.dst v)) ∨
      (∃ (d : Nat) (φ : Ph), o.dst = some d ∧ d < a.tmps.size ∧ Lasts ρ φ ∧ NoBool φ ∧ (∀ p : Lat ρ w, opened (seen ops o U) p.W a fun a' => one P ρ p.W φ ((execOp a'.eval o).run P p.W)) ∧
        walk P ρ ops w Q rest ((d, φ) :: U) (a.put (some d) undef))
    else walk P ρ ops w Q rest U (a.put o.dst undef)

section frames
variable {a b : Act} {d s : Nat} {v : Value}
theorem put_size (a : Act) (x : Option Tmp) (v : Value) : (a.put x v).tmps.size = a.tmps.size := by cases x <;> simp [Act.put]
theorem put_defers (a : Act) (x : Option Tmp) (v : Value) : (a.put x v).defers = a.defers := by cases x <;> rfl
theorem eval_ne (h : d ≠ s) : (a.put (some d) v).eval (.tmp s) = a.eval (.tmp s) := by
  simp [Act.eval, Act.put, Array.getElem?_setIfInBounds_ne h]
theorem eval_eq (h : d < a.tmps.size) : (a.put (some d) v).eval (.tmp d) = v := by
  simp [Act.eval, Act.put, h]
theorem eval_off (h : ¬ d < a.tmps.size) (b : Act) (hs : b.tmps.size = a.tmps.size) : b.eval (.tmp d) = undef := by
  simp [Act.eval, Array.getElem?_eq_none (xs := b.tmps) (i := d) (by omega)]
/-- two frames that agree on the slots of a list -/
def Agree (L : List Nat) (a b : Act) : Prop := ∀ s ∈ L, a.eval (.tmp s) = b.eval (.tmp s)
theorem Agree.put {L : List Nat} (h : Agree L a b) (hs : a.tmps.size = b.tmps.size) (d : Nat) (v : Value) : Agree L (a.put (some d) v) (b.put (some d) v) := fun s hsL => by
  by_cases e : d = s
  · subst e
    by_cases hd : d < a.tmps.size
    · rw [eval_eq hd, eval_eq (by omega)]
    · rw [eval_off hd _ (put_size ..), eval_off (a := b) (by omega) _ (put_size ..)]
  · rw [eval_ne e, eval_ne e]; exact h s hsL
theorem Agree.put_left {L : List Nat} (h : Agree L a b) (hd : d ∉ L) : Agree L (a.put (some d) v) b := fun s hs => by
  rw [eval_ne (fun e => hd (by rw [e]; exact hs))]; exact h s hs
end frames

theorem exec_agree {ops : Array Oper} {o : Oper} (hs : ∀ cs b, o.op ≠ .select cs b) {a b : Act} (h : Agree (o.looksAt ops) a b) : execOp a.eval o = execOp b.eval o :=
  execOp_congr o hs fun x hx => by
    cases x with
    | tmp t => exact h t (List.mem_append_left _ (List.mem_filterMap.2 ⟨.tmp t, by simpa using hx, rfl⟩))
    | _ => rfl

theorem opened_agree {L : List Nat} {K K' : Act → Prop} (hK : ∀ a b, a.tmps.size = b.tmps.size → Agree L a b → K a → K' b) : ∀ (us : List (Nat × Ph)) {W : World} {a b : Act}, a.tmps.size = b.tmps.size → Agree L a b → opened us W a K → opened us W b K'
  | [], _, _, _, hs, h, k => hK _ _ hs h k
  | u :: us, W, a, b, hs, h, k => fun v hv => opened_agree hK us (by rw [put_size, put_size]; exact hs) (h.put hs _ _) (k v hv)

/-- a's own values put into A -/
def fill (a : Act) : List (Nat × Ph) → Act → Act
  | [], A => A
  | u :: us, A => fill a us (A.put (some u.1) (a.eval (.tmp u.1)))
theorem opened_fill (a : Act) {K : Act → Prop} : ∀ (us : List (Nat × Ph)) {W : World} {A : Act}, (∀ u ∈ us, u.2 (a.eval (.tmp u.1)) W) → opened us W A K → K (fill a us A)
  | [], _, _, _, k => k
  | u :: us, _, _, h, k => opened_fill a us (fun x hx => h x (List.mem_cons_of_mem _ hx)) (k _ (h u (List.mem_cons_self ..)))
theorem fill_size (a : Act) : ∀ (us : List (Nat × Ph)) (A : Act), (fill a us A).tmps.size = A.tmps.size
  | [], _ => rfl
  | u :: us, A => by rw [fill, fill_size a us, put_size]
theorem fill_defers (a : Act) : ∀ (us : List (Nat × Ph)) (A : Act), (fill a us A).defers = A.defers
  | [], _ => rfl
  | u :: us, A => by rw [fill, fill_defers a us, put_defers]
/-- a slot that agrees stays so -/
theorem fill_keep (a : Act) {s : Nat} : ∀ (us : List (Nat × Ph)) {A : Act}, A.tmps.size = a.tmps.size → A.eval (.tmp s) = a.eval (.tmp s) → (fill a us A).eval (.tmp s) = a.eval (.tmp s)
  | [], _, _, h => h
  | u :: us, A, hs, h => fill_keep a us (by rw [put_size]; exact hs) (by
    by_cases e : u.1 = s
    · subst e
      by_cases hd : u.1 < A.tmps.size
      · rw [eval_eq hd]
      · rw [eval_off hd _ (put_size ..), eval_off hd a hs.symm]
    · rw [eval_ne e]; exact h)
theorem fill_at (a : Act) {s : Nat} : ∀ (us : List (Nat × Ph)) {A : Act}, A.tmps.size = a.tmps.size → s ∈ us.map (·.1) → (fill a us A).eval (.tmp s) = a.eval (.tmp s)
  | [], _, _, h => by cases h
  | u :: us, A, hs, h => by
    by_cases e : u.1 = s
    · refine fill_keep a us (by rw [put_size]; exact hs) ?_
      subst e
      by_cases hd : u.1 < A.tmps.size
      · rw [eval_eq hd]
      · rw [eval_off hd _ (put_size ..), eval_off hd a hs.symm]
    · refine fill_at a us (by rw [put_size]; exact hs) ?_
      rcases List.mem_cons.1 h with h | h
      · exact absurd h.symm e
      · exact h

/-! ### what the walk shows of each operation, said of the frame behind all of them -/
/-- what one operation does -/
def Cert (P : Program) (ρ : Rl) (ops : Array Oper) (w : World) (U : List (Nat × Ph)) (A : Act) (o : Oper) : Prop :=
  (Region.wanted o (yielded ops A.tmps) = false ∧ ∀ d, o.dst = some d → d ∉ U.map (·.1) ∧ A.eval (.tmp d) = undef) ∨
  (Region.wanted o (yielded ops A.tmps) = true ∧ ∃ φ : Ph, Lasts ρ φ ∧
    (∀ d, o.dst = some d → (∃ v, φ = (fun u _ => u = v) ∧ d ∉ U.map (·.1) ∧ (d < A.tmps.size → A.eval (.tmp d) = v)) ∨ ((d, φ) ∈ U ∧ d < A.tmps.size)) ∧
    ∀ p : Lat ρ w, opened (seen ops o U) p.W A fun a' => one P ρ p.W φ ((execOp a'.eval o).run P p.W))

variable {ops : Array Oper} {w : World}
/-- a guard's Bool, off a frame's slots -/
theorem yielded_eval (a : Act) (g : Nat) : yielded ops a.tmps g = match ((ops[g]?).bind (·.dst)) with | some t => (match a.eval (.tmp t) with | .bool b => some b | _ => none) | none => none := by
  unfold yielded
  cases (ops[g]?).bind (·.dst) with
  | none => rfl
  | some t =>
    simp only [Option.bind_some, Act.eval]
    cases h : a.tmps[t]? with
    | none => simp [h, undef]
    | some v =>
      simp only [h, Array.getD_eq_getD_getElem?, Option.getD_some]
      cases v <;> rfl
theorem guard_looked {o : Oper} {g : Nat} {b : Bool} (hg : o.guard = some (g, b)) {t : Nat} (ht : (ops[g]?).bind (·.dst) = some t) : t ∈ o.looksAt ops := by
  unfold Oper.looksAt
  rw [hg]
  exact List.mem_append_right _ (by simp [ht])
theorem wanted_of {o : Oper} {a b : Act} (h : ∀ t ∈ o.looksAt ops, (match a.eval (.tmp t) with | .bool x => some x | _ => none) = (match b.eval (.tmp t) with | .bool x => some x | _ => none)) : Region.wanted o (yielded ops a.tmps) = Region.wanted o (yielded ops b.tmps) := by
  unfold Region.wanted
  cases hg : o.guard with
  | none => rfl
  | some gw =>
    obtain ⟨g, x⟩ := gw
    have : yielded ops a.tmps g = yielded ops b.tmps g := by
      rw [yielded_eval, yielded_eval]
      cases ht : (ops[g]?).bind (·.dst) with
      | none => rfl
      | some t => exact h t (guard_looked hg ht)
    simp only [this]

theorem seen_cons {o : Oper} {d : Nat} {φ : Ph} {U : List (Nat × Ph)} (h : d ∉ o.looksAt ops) : seen ops o ((d, φ) :: U) = seen ops o U := by
  unfold seen
  rw [List.filter_cons_of_neg (by simpa using h)]

/-- a later operation's value turns nothing of it -/
theorem Cert.put {U : List (Nat × Ph)} {A : Act} {o : Oper} (hs : ∀ cs b, o.op ≠ .select cs b) (h : Cert P ρ ops w U A o) {x : Option Tmp} (hx : ∀ d, x = some d → d ∉ o.looksAt ops ∧ o.dst ≠ some d) (v : Value) : Cert P ρ ops w U (A.put x v) o := by
  cases x with
  | none => exact h
  | some d =>
    obtain ⟨h1, h2⟩ := hx d rfl
    have hw : Region.wanted o (yielded ops (A.put (some d) v).tmps) = Region.wanted o (yielded ops A.tmps) := wanted_put o A (some d) v (fun e he => by cases he; exact h1)
    have hev : ∀ e, o.dst = some e → (A.put (some d) v).eval (.tmp e) = A.eval (.tmp e) := fun e he => eval_ne (fun h' => h2 (by rw [h']; exact he))
    rcases h with ⟨a1, a2⟩ | ⟨a1, φ, a2, a3, a4⟩
    · exact .inl ⟨hw.trans a1, fun e he => ⟨(a2 e he).1, (hev e he).trans (a2 e he).2⟩⟩
    · refine .inr ⟨hw.trans a1, φ, a2, fun e he => ?_, fun p => opened_agree (L := o.looksAt ops) (fun a b _ hab k => by rw [← exec_agree hs hab]; exact k) _ (put_size ..).symm ?_ (a4 p)⟩
      · rw [hev e he, put_size]; exact a3 e he
      · intro s hs'
        rw [eval_ne (fun e => h1 (by rw [e]; exact hs'))]
theorem Cert.cons {U : List (Nat × Ph)} {A : Act} {o : Oper} (h : Cert P ρ ops w U A o) {d : Nat} (hd : d ∉ o.looksAt ops) (hd' : o.dst ≠ some d) (φ : Ph) : Cert P ρ ops w ((d, φ) :: U) A o := by
  rcases h with ⟨a1, a2⟩ | ⟨a1, ψ, a2, a3, a4⟩
  · refine .inl ⟨a1, fun e he => ⟨?_, (a2 e he).2⟩⟩
    simp only [List.map_cons, List.mem_cons, not_or]
    exact ⟨fun h' => hd' (h' ▸ he), (a2 e he).1⟩
  · refine .inr ⟨a1, ψ, a2, fun e he => ?_, fun p => by rw [seen_cons hd]; exact a4 p⟩
    rcases a3 e he with ⟨v, b1, b2, b3⟩ | ⟨b1, b2⟩
    · refine .inl ⟨v, b1, ?_, b3⟩
      simp only [List.map_cons, List.mem_cons, not_or]
      exact ⟨fun h' => hd' (h' ▸ he), b2⟩
    · exact .inr ⟨List.mem_cons_of_mem _ b1, b2⟩

/-- what the walk needs of the text: none looks at a slot that it, or a later one, writes; none writes another's slot -/
def apartB (ops : Array Oper) : List Oper → Bool
  | [] => true
  | o :: rest => (match o.dst with | some d => !(o.looksAt ops).contains d | none => true) && (rest.all fun x => match x.dst with | some d => !(o.looksAt ops).contains d && o.dst != some d | none => true) && apartB ops rest

/-- what is known behind the walk -/
structure Done (P : Program) (ρ : Rl) (ops : Array Oper) (w : World) (a0 : Act) (hd : List Oper) (U : List (Nat × Ph)) (A : Act) : Prop where
  size : A.tmps.size = a0.tmps.size
  defers : A.defers = a0.defers
  other : ∀ s, (∀ o ∈ hd, o.dst ≠ some s) → A.eval (.tmp s) = a0.eval (.tmp s)
  cert : ∀ o ∈ hd, Cert P ρ ops w U A o
  noBool : ∀ u ∈ U, NoBool u.2
  hidden : ∀ u ∈ U, A.eval (.tmp u.1) = undef
  slots : ∀ u ∈ U, ∃ o ∈ hd, o.dst = some u.1
  nodup : (U.map (·.1)).Nodup

theorem done_of_walk (hsel : ∀ o cs b, o ∈ ops.toList → o.op ≠ .select cs b) {Q : List (Nat × Ph) → Act → Prop} : ∀ (rest : List Oper) (pre : List Oper) (a0 : Act) (U : List (Nat × Ph)) (a : Act),
    (∀ o ∈ pre ++ rest, o ∈ ops.toList) → apartB ops (pre ++ rest) = true → Done P ρ ops w a0 pre U a → walk P ρ ops w Q rest U a → ∃ U' A, Done P ρ ops w a0 (pre ++ rest) U' A ∧ Q U' A
  | [], pre, a0, U, a, _, _, D, h => ⟨U, a, by simpa using D, h⟩
  | o :: rest, pre, a0, U, a, hm, hB, D, h => by
    have key : ∀ (l : List Oper), apartB ops (l ++ o :: rest) = true → (∀ x ∈ l, ∀ d, o.dst = some d → d ∉ x.looksAt ops ∧ x.dst ≠ some d) ∧ ∀ d, o.dst = some d → d ∉ o.looksAt ops := by
      intro l
      induction l with
      | nil =>
        intro hB
        refine ⟨fun x hx => (by cases hx), fun d hd => ?_⟩
        simp only [List.nil_append, apartB, hd, Bool.and_eq_true] at hB
        simpa using hB.1.1
      | cons y l ih =>
        intro hB
        simp only [List.cons_append, apartB, Bool.and_eq_true] at hB
        obtain ⟨h1, h2⟩ := ih hB.2
        refine ⟨fun x hx d hd => ?_, h2⟩
        rcases List.mem_cons.1 hx with rfl | hx
        · have := List.all_eq_true.1 hB.1.2 o (by simp)
          simp only [hd, Bool.and_eq_true] at this
          exact ⟨by simpa using this.1, by simpa using this.2⟩
        · exact h1 x hx d hd
    obtain ⟨k1, k2⟩ := key pre hB
    have ho : o ∈ ops.toList := hm o (by simp)
    have e1 : pre ++ o :: rest = (pre ++ [o]) ++ rest := by simp
    have nin : ∀ d, o.dst = some d → d ∉ U.map (·.1) := fun d hd hmem => by
      obtain ⟨u, hu, rfl⟩ := List.mem_map.1 hmem
      obtain ⟨x, hx, hxd⟩ := D.slots u hu
      exact (k1 x hx _ hd).2 hxd
    have other : ∀ (v : Value) s, (∀ x ∈ pre ++ [o], x.dst ≠ some s) → (a.put o.dst v).eval (.tmp s) = a0.eval (.tmp s) := fun v s hs => by
      have h0 := D.other s (fun x hx => hs x (by simp [hx]))
      cases hd : o.dst with
      | none => exact h0
      | some d => rw [eval_ne (fun e => hs o (by simp) (by rw [← e]; exact hd))]; exact h0
    have hid : ∀ (v : Value), ∀ u ∈ U, (a.put o.dst v).eval (.tmp u.1) = undef := fun v u hu => by
      cases hd : o.dst with
      | none => exact D.hidden u hu
      | some d => rw [eval_ne (fun e => nin d hd (by rw [e]; exact List.mem_map.2 ⟨u, hu, rfl⟩))]; exact D.hidden u hu
    have old : ∀ (v : Value), ∀ x ∈ pre, Cert P ρ ops w U (a.put o.dst v) x := fun v x hx => (D.cert x hx).put (fun cs b => hsel x cs b (hm x (by simp [hx]))) (fun d hd => k1 x hx d hd) v
    have agr : ∀ (v : Value), Agree (o.looksAt ops) a (a.put o.dst v) := fun v s hs => by
      cases hd : o.dst with
      | none => rfl
      | some d => rw [eval_ne (fun e => k2 d hd (by rw [e]; exact hs))]
    have wnt : ∀ (v : Value), Region.wanted o (yielded ops (a.put o.dst v).tmps) = Region.wanted o (yielded ops a.tmps) := fun v => wanted_put o a o.dst v (fun d hd => k2 d hd)
    have mk : ∀ (v : Value), Cert P ρ ops w U (a.put o.dst v) o → Done P ρ ops w a0 (pre ++ [o]) U (a.put o.dst v) := fun v hc =>
      { size := (put_size ..).trans D.size, defers := (put_defers ..).trans D.defers, other := other v,
        cert := fun x hx => (List.mem_append.1 hx).elim (old v x) (fun h => (List.mem_singleton.1 h) ▸ hc),
        noBool := D.noBool, hidden := hid v, slots := fun u hu => let ⟨x, hx, hxd⟩ := D.slots u hu; ⟨x, by simp [hx], hxd⟩, nodup := D.nodup }
    unfold walk at h
    split at h
    · rename_i hw
      rcases h with ⟨v, hrun, hrest⟩ | ⟨d, φ, hd, hlt, hlast, hnb, hrun, hrest⟩
      · rw [e1]
        refine done_of_walk hsel rest (pre ++ [o]) a0 U _ (by rw [← e1]; exact hm) (by rw [← e1]; exact hB) (mk v (.inr ⟨(wnt v).trans hw, fun u _ => u = v, fun _ _ _ h _ => h, fun d hd => .inl ⟨v, rfl, nin d hd, fun hlt => ?_⟩, fun p => ?_⟩)) hrest
        · rw [hd, eval_eq (by rw [put_size] at hlt; exact hlt)]
        · exact opened_agree (L := o.looksAt ops) (fun a b _ hab k => by rw [← exec_agree (fun cs b => hsel o cs b ho) hab]; exact k) _ (put_size ..).symm (agr v) (hrun p)
      · rw [e1]
        have hnd := nin d hd
        have step : Done P ρ ops w a0 (pre ++ [o]) ((d, φ) :: U) (a.put (some d) undef) := by
          have hx : a.put (some d) undef = a.put o.dst undef := by rw [hd]
          refine { size := (put_size ..).trans D.size, defers := (put_defers ..).trans D.defers, other := by rw [hx]; exact other undef, cert := fun x hx' => ?_, noBool := fun u hu => ?_, hidden := fun u hu => ?_, slots := fun u hu => ?_, nodup := ?_ }
          · rcases List.mem_append.1 hx' with h | h
            · have := old undef x h
              rw [← hx] at this
              exact this.cons (k1 x h d hd).1 (k1 x h d hd).2 φ
            · rw [List.mem_singleton.1 h]
              refine .inr ⟨by rw [hx]; exact (wnt undef).trans hw, φ, hlast, fun e he => .inr ⟨?_, ?_⟩, fun p => ?_⟩
              · rw [hd] at he; cases he; exact List.mem_cons_self ..
              · rw [hd] at he; cases he; rw [put_size]; exact hlt
              · rw [seen_cons (k2 d hd), hx]
                exact opened_agree (L := o.looksAt ops) (fun a b _ hab k => by rw [← exec_agree (fun cs b => hsel o cs b ho) hab]; exact k) _ (put_size ..).symm (agr undef) (hrun p)
          · rcases List.mem_cons.1 hu with rfl | hu
            · exact hnb
            · exact D.noBool u hu
          · rcases List.mem_cons.1 hu with rfl | hu
            · exact eval_eq hlt
            · rw [hx]; exact hid undef u hu
          · rcases List.mem_cons.1 hu with rfl | hu
            · exact ⟨o, by simp, hd⟩
            · let ⟨x, hx, hxd⟩ := D.slots u hu
              exact ⟨x, by simp [hx], hxd⟩
          · simp only [List.map_cons, List.nodup_cons]
            exact ⟨hnd, D.nodup⟩
        exact done_of_walk hsel rest (pre ++ [o]) a0 _ _ (by rw [← e1]; exact hm) (by rw [← e1]; exact hB) step hrest
    · rename_i hw
      rw [e1]
      refine done_of_walk hsel rest (pre ++ [o]) a0 U _ (by rw [← e1]; exact hm) (by rw [← e1]; exact hB) (mk undef (.inl ⟨(wnt undef).trans (by simpa using hw), fun d hd => ⟨nin d hd, ?_⟩⟩)) h
      rw [hd]
      by_cases hlt : d < a.tmps.size
      · exact eval_eq hlt
      · exact eval_off hlt _ (put_size ..)

/-! ### every order -/
variable {md : Region.Mode} {l : List Oper} {n : Nat}
/-- what an operation looks at it waits for -/
def edgeB (md : Region.Mode) (ops : Array Oper) (hd : List Oper) : Bool :=
  hd.all fun o => (o.looksAt ops).all fun s => (List.range hd.length).all fun k => match hd[k]? with
    | some x => x.dst != some s || o.after.any fun e => Region.binds md e && e.on == k
    | none => true
theorem edgeB_spec {hd : List Oper} (h : edgeB md ops hd = true) {o : Oper} (ho : o ∈ hd) {s k : Nat} (hs : s ∈ o.looksAt ops) {x : Oper} (hk : hd[k]? = some x) (hx : x.dst = some s) : ∃ e ∈ o.after, Region.binds md e = true ∧ e.on = k := by
  have h1 := List.all_eq_true.1 (List.all_eq_true.1 (List.all_eq_true.1 h o ho) s hs) k (List.mem_range.2 (List.getElem?_eq_some_iff.1 hk).1)
  simp only [hk, hx] at h1
  simp only [bne_self_eq_false, Bool.false_or] at h1
  obtain ⟨e, he, h2⟩ := Array.any_eq_true'.1 h1
  simp only [Bool.and_eq_true, beq_iff_eq] at h2
  exact ⟨e, he, h2.1, h2.2⟩

/-- what holds on the way, whatever has been done -/
structure Inv (ρ : Rl) (w : World) (l : List Oper) (n : Nat) (U : List (Nat × Ph)) (A : Act) (m : Array Bool) (a : Act) (W : World) : Prop where
  rel : ρ.r w W
  size : a.tmps.size = A.tmps.size
  defers : a.defers = A.defers
  other : ∀ s, (∀ o ∈ l.take n, o.dst ≠ some s) → a.eval (.tmp s) = A.eval (.tmp s)
  told : ∀ j o d, j < n → l[j]? = some o → m.getD j true = true → o.dst = some d → d ∉ U.map (·.1) → a.eval (.tmp d) = A.eval (.tmp d)
  such : ∀ j o d φ, j < n → l[j]? = some o → m.getD j true = true → o.dst = some d → (d, φ) ∈ U → φ (a.eval (.tmp d)) W

theorem once {U : List (Nat × Ph)} (h : (U.map (·.1)).Nodup) {d : Nat} {φ ψ : Ph} (h1 : (d, φ) ∈ U) (h2 : (d, ψ) ∈ U) : φ = ψ := by
  induction U with
  | nil => cases h1
  | cons u U ih =>
    simp only [List.map_cons, List.nodup_cons] at h
    rcases List.mem_cons.1 h1 with e1 | e1
    · rcases List.mem_cons.1 h2 with e2 | e2
      · rw [← e1] at e2; injection e2 with _ e3; exact e3.symm
      · exact absurd (List.mem_map.2 ⟨_, e2, by rw [← e1]⟩) h.1
    · rcases List.mem_cons.1 h2 with e2 | e2
      · exact absurd (List.mem_map.2 ⟨_, e1, by rw [← e2]⟩) h.1
      · exact ih h.2 e1 e2

theorem apart_at {ops : Array Oper} : ∀ {hd : List Oper}, apartB ops hd = true → ∀ {i j : Nat} {o x : Oper}, hd[i]? = some o → hd[j]? = some x → i ≠ j → ∀ d, o.dst = some d → x.dst ≠ some d
  | [], _, _, _, _, _, h, _, _ => by simp at h
  | y :: hd, h, i, j, o, x, hi, hj, hne => by
    simp only [apartB, Bool.and_eq_true] at h
    intro d hd'
    match i, j, hi, hj, hne with
    | 0, 0, _, _, hne => exact absurd rfl hne
    | 0, j + 1, hi, hj, _ =>
      have e : y = o := by simpa using hi
      subst e
      have hm : x ∈ hd := List.mem_of_getElem? (by simpa using hj)
      have := List.all_eq_true.1 h.1.2 x hm
      intro hx
      simp only [hx, Bool.and_eq_true] at this
      have h2 := this.2
      rw [hd'] at h2
      simp at h2
    | i + 1, 0, hi, hj, _ =>
      have e : y = x := by simpa using hj
      subst e
      have hm : o ∈ hd := List.mem_of_getElem? (by simpa using hi)
      have := List.all_eq_true.1 h.1.2 o hm
      simp only [hd', Bool.and_eq_true] at this
      intro hx
      have h2 := this.2
      rw [hx] at h2
      simp at h2
    | i + 1, j + 1, hi, hj, hne => exact apart_at h.2 (by simpa using hi) (by simpa using hj) (by omega) d hd'

theorem step_of {a0 : Act} {U : List (Nat × Ph)} {A : Act} (hsel : Region.noSelect l.toArray = true) (hap : apartB (l.take n).toArray (l.take n) = true) (hed : edgeB md (l.take n).toArray (l.take n) = true) (hb : Qt.backB md (l.take n) = true) (hn : n ≤ l.length)
    (D : Done P ρ (l.take n).toArray w a0 (l.take n) U A) {Q : Exit → Act → World → Prop} {m : Array Bool} {a : Act} {W : World} (I : Inv ρ w l n U A m a W) {i : Nat} (hi : i < n) (hsz : m.size = l.length) (hr : i ∈ Region.ready md l.toArray m) :
    wpOp P l.toArray Q i (fun a' W' => Inv ρ w l n U A (m.setIfInBounds i true) a' W') a W := by
  have hil : i < l.length := by omega
  have hoi : l[i]? = some l[i] := List.getElem?_eq_getElem hil
  have hoh : (l.take n)[i]? = some l[i] := by simp [hi, hil]
  generalize ho : l[i] = o at hoi hoh
  have hom : o ∈ l.take n := List.mem_of_getElem? hoh
  have hsel' : ∀ cs b, o.op ≠ .select cs b := fun cs b => Region.noSelect_spec hsel i o cs b (by simpa using hoi)
  -- what it looks at is there
  have look : ∀ s ∈ o.looksAt (l.take n).toArray, (s ∉ U.map (·.1) → a.eval (.tmp s) = A.eval (.tmp s)) ∧ ∀ φ, (s, φ) ∈ U → φ (a.eval (.tmp s)) W := by
    intro s hs
    by_cases hex : ∃ x ∈ l.take n, x.dst = some s
    · obtain ⟨x, hx, hxs⟩ := hex
      obtain ⟨k, hk⟩ := List.mem_iff_getElem?.1 hx
      have hkn : k < n := by have := (List.getElem?_eq_some_iff.1 hk).1; simp at this; omega
      have hkl : l[k]? = some x := by simpa [List.getElem?_take, hkn] using hk
      obtain ⟨e, he, hbd, hon⟩ := edgeB_spec hed hom hs hk hxs
      obtain ⟨_, o', ho', hall⟩ := mem_ready.1 hr
      have hoo : o' = o := by
        have : l[i]? = some o' := by simpa using ho'
        rw [hoi] at this; injection this with e; exact e.symm
      subst hoo
      have hl := hall e he hbd
      rw [hon] at hl
      have hl' : m.getD k true = true := by
        rw [Array.getD_eq_getD_getElem?, Array.getElem?_eq_getElem (by omega)] at hl ⊢
        simpa using hl
      exact ⟨fun hU => I.told k x s hkn hkl hl' hxs hU, fun φ hφ => I.such k x s φ hkn hkl hl' hxs hφ⟩
    · have hno : ∀ x ∈ l.take n, x.dst ≠ some s := fun x hx hxs => hex ⟨x, hx, hxs⟩
      refine ⟨fun _ => I.other s hno, fun φ hφ => ?_⟩
      obtain ⟨x, hx, hxs⟩ := D.slots _ hφ
      exact absurd hxs (hno x hx)
  have hwant : Region.wanted o (yielded (l.take n).toArray a.tmps) = Region.wanted o (yielded (l.take n).toArray A.tmps) := wanted_of fun t ht => by
    by_cases hU : t ∈ U.map (·.1)
    · obtain ⟨u, hu, rfl⟩ := List.mem_map.1 hU
      have h1 := (look _ ht).2 u.2 hu
      have h2 := D.noBool u hu
      rw [D.hidden u hu]
      cases hv : a.eval (.tmp u.1) with
      | bool b => rw [hv] at h1; exact absurd h1 (h2 b W)
      | _ => rfl
    · rw [(look _ ht).1 hU]
  -- what it leaves
  have leave : ∀ (u : Value) (W' : World), ρ.r W W' → (∀ d, o.dst = some d → (d ∉ U.map (·.1) → d < A.tmps.size → A.eval (.tmp d) = u) ∧ ∀ φ, (d, φ) ∈ U → d < A.tmps.size ∧ φ u W') → Inv ρ w l n U A (m.setIfInBounds i true) (a.put o.dst u) W' := by
    intro u W' hrel hu
    have lasts : ∀ d φ, (d, φ) ∈ U → Lasts ρ φ := fun d φ hφ => by
      obtain ⟨x, hx, hxs⟩ := D.slots _ hφ
      rcases D.cert x hx with ⟨_, h2⟩ | ⟨_, ψ, h1, h2, _⟩
      · exact absurd (List.mem_map.2 ⟨_, hφ, rfl⟩) (h2 _ hxs).1
      · rcases h2 _ hxs with ⟨v, _, h4, _⟩ | ⟨h4, _⟩
        · exact absurd (List.mem_map.2 ⟨_, hφ, rfl⟩) h4
        · rw [once D.nodup hφ h4]; exact h1
    have apt : ∀ j x d, j < n → l[j]? = some x → j ≠ i → x.dst = some d → o.dst ≠ some d := fun j x d hj hx hne hd => by
      exact apart_at hap (i := j) (j := i) (by simpa [List.getElem?_take, hj] using hx) hoh hne d hd
    refine ⟨ρ.trans I.rel hrel, by rw [put_size]; exact I.size, by rw [put_defers]; exact I.defers, fun s hs => ?_, fun j x d hj hx hm hd hU => ?_, fun j x d φ hj hx hm hd hU => ?_⟩
    · have h0 := I.other s hs
      cases hd : o.dst with
      | none => exact h0
      | some d => rw [eval_ne (fun e => hs o hom (by rw [← e]; exact hd))]; exact h0
    · by_cases hji : j = i
      · subst hji
        have hxo : x = o := by rw [hoi] at hx; injection hx with e; exact e.symm
        subst hxo
        rw [hd]
        by_cases hlt : d < a.tmps.size
        · rw [eval_eq hlt, (hu d hd).1 hU (by rw [← I.size]; exact hlt)]
        · rw [eval_off hlt _ (put_size ..), eval_off hlt A I.size.symm]
      · have h0 := I.told j x d hj hx (by rw [getD_set_ne true (Ne.symm hji)] at hm; exact hm) hd hU
        cases hd' : o.dst with
        | none => exact h0
        | some e => rw [eval_ne (fun h => apt j x d hj hx hji hd (by rw [← h]; exact hd'))]; exact h0
    · by_cases hji : j = i
      · subst hji
        have hxo : x = o := by rw [hoi] at hx; injection hx with e; exact e.symm
        subst hxo
        obtain ⟨h1, h2⟩ := (hu d hd).2 φ hU
        rw [hd, eval_eq (by rw [I.size]; exact h1)]
        exact h2
      · have h0 := I.such j x d φ hj hx (by rw [getD_set_ne true (Ne.symm hji)] at hm; exact hm) hd hU
        have h1 := lasts d φ hU _ _ _ h0 hrel
        cases hd' : o.dst with
        | none => exact h1
        | some e => rw [eval_ne (fun h => apt j x d hj hx hji hd (by rw [← h]; exact hd'))]; exact h1
  unfold wpOp
  rw [show l.toArray[i]? = some o by simpa using hoi]
  simp only
  rw [← Qt.wanted_head hb hn hoh a, hwant]
  rcases D.cert o hom with ⟨hw, h2⟩ | ⟨hw, φ, h1, h2, h3⟩
  · rw [hw]
    simp only [Bool.false_eq_true, if_false]
    exact leave undef W (ρ.refl _) (fun d hd => ⟨fun _ _ => (h2 d hd).2, fun φ hφ => absurd (List.mem_map.2 ⟨_, hφ, rfl⟩) (h2 d hd).1⟩)
  · rw [hw]
    simp only [if_true]
    refine .inl ?_
    have h4 : one P ρ W φ ((execOp (fill a (seen (l.take n).toArray o U) A).eval o).run P W) := opened_fill a _ (fun u hu => (look u.1 (by have := (List.mem_filter.1 hu).2; simpa using this)).2 u.2 (List.mem_filter.1 hu).1) (h3 ⟨W, I.rel⟩)
    have hag : Agree (o.looksAt (l.take n).toArray) (fill a (seen (l.take n).toArray o U) A) a := fun s hs => by
      by_cases hU : s ∈ U.map (·.1)
      · obtain ⟨u, hu, rfl⟩ := List.mem_map.1 hU
        exact fill_at a _ I.size.symm (List.mem_map.2 ⟨u, List.mem_filter.2 ⟨hu, by simpa using hs⟩, rfl⟩)
      · exact fill_keep a _ I.size.symm ((look s hs).1 hU).symm
    rw [exec_agree hsel' hag] at h4
    have fin : ∀ (u : Value) (W' : World), ρ.r W W' → φ u W' → Inv ρ w l n U A (m.setIfInBounds i true) (a.put o.dst u) W' := fun u W' hrel hφ => leave u W' hrel (fun d hd => by
      rcases h2 d hd with ⟨v, e1, e2, e3⟩ | ⟨e1, e2⟩
      · subst e1
        refine ⟨fun _ hlt => (e3 hlt).trans hφ.symm, fun ψ hψ => absurd (List.mem_map.2 ⟨_, hψ, rfl⟩) e2⟩
      · refine ⟨fun hno => absurd (List.mem_map.2 ⟨_, e1, rfl⟩) hno, fun ψ hψ => ⟨e2, ?_⟩⟩
        rw [once D.nodup hψ e1]; exact hφ)
    unfold Oper.wp
    generalize (execOp a.eval o).run P W = r at h4
    cases r with
    | ok x W' =>
      cases x <;> simp only [one] at h4 <;> simp only [Oper.upon]
      case value u => exact fin u W' h4.1 h4.2
      case skip => exact fin undef W' h4.1 h4.2
      case enter f args => exact h4.mono fun e W'' ⟨v, he, hrel, hφ⟩ => by subst he; exact fin v W'' hrel hφ
    | halt x W' => simp only [one] at h4

/-- how many of the head are still to be done -/
def left (n : Nat) (m : Array Bool) : Nat := ((List.range n).filter fun j => !m.getD j true).length
theorem left_set {m : Array Bool} {i : Nat} (hi : i < n) (hu : m.getD i true = false) : left n (m.setIfInBounds i true) < left n m := by
  unfold left
  have e : ((List.range n).filter fun j => !(m.setIfInBounds i true).getD j true) = (((List.range n).filter fun j => !m.getD j true).filter fun j => j != i) := by
    rw [List.filter_filter]
    refine List.filter_congr fun j _ => ?_
    by_cases hij : i = j
    · subst hij
      have : (m.setIfInBounds i true).getD i true = true := by
        by_cases hs : i < m.size
        · simp [hs]
        · simp [Array.getElem?_eq_none (xs := m.setIfInBounds i true) (i := i) (by simp; omega)]
      rw [this]; simp
    · rw [getD_set_ne true hij]
      simp [Ne.symm hij]
  rw [e]
  have h1 : i ∈ (List.range n).filter fun j => !m.getD j true := List.mem_filter.2 ⟨List.mem_range.2 hi, by rw [hu]; rfl⟩
  exact List.length_filter_lt_length_iff_exists.2 ⟨i, h1, by simp⟩

theorem any_of_inv {g : Nat} {Q' : Exit → Act → World → Prop} {J : Array Bool → Act → World → Prop} (hb : Qt.backB md (l.take n) = true) (hn : n ≤ l.length) (hw : n = l.length ∨ (Region.sinkB md l.toArray n = true ∧ Region.chainB md l.toArray n = true))
    (hstep : ∀ m a W i, J m a W → i < n → m.size = l.length → i ∈ Region.ready md l.toArray m → wpOp P l.toArray Q' i (fun a' W' => J (m.setIfInBounds i true) a' W') a W)
    (hend : ∀ f m a W, HeadInv md l.toArray n m → (∀ j, j < n → m.getD j true = true) → J m a W → wpAny P md l.toArray Q' (f + g) m a W) :
    ∀ (f : Nat) (m : Array Bool) (a : Act) (W : World), left n m ≤ f → HeadInv md l.toArray n m → J m a W → wpAny P md l.toArray Q' (f + g) m a W := by
  intro f
  induction f with
  | zero =>
    intro m a W hl inv hJ
    refine hend 0 m a W inv (fun j hj => ?_) hJ
    by_cases hc : m.getD j true = true
    · exact hc
    · have h1 : j ∈ (List.range n).filter fun j => !m.getD j true := List.mem_filter.2 ⟨List.mem_range.2 hj, by simpa using hc⟩
      have h2 := List.length_pos_of_mem h1
      unfold left at hl
      omega
  | succ f ih =>
    intro m a W hl inv hJ
    by_cases hd : ∀ j, j < n → m.getD j true = true
    · exact hend (f + 1) m a W inv hd hJ
    · have hsz : m.size = l.length := by simpa using inv.size
      -- the first that is not done is ready
      have first : ∀ j, j < n → m.getD j true = false → ∃ i, i < n ∧ i ∈ Region.ready md l.toArray m := by
        intro j
        induction j using Nat.strongRecOn with
        | _ j ihj =>
          intro hj hun
          have hjl : j < l.length := by omega
          by_cases hall : ∀ e ∈ l[j].after, Region.binds md e = true → m.getD e.on false = true
          · exact ⟨j, hj, mem_ready.2 ⟨hun, l[j], by simp [hjl], hall⟩⟩
          · simp only [Classical.not_forall] at hall
            obtain ⟨e, he, hbd, hno⟩ := hall
            have hlt := (Qt.backB_spec hb (j := j) (o := l[j]) (by simp [hj, hjl])).1 e he hbd
            refine ihj e.on hlt (by omega) ?_
            rw [Array.getD_eq_getD_getElem?, Array.getElem?_eq_getElem (by omega)] at hno ⊢
            simpa using hno
      simp only [Classical.not_forall] at hd
      obtain ⟨j, hj, hun⟩ := hd
      have hun' : m.getD j true = false := by simpa using hun
      obtain ⟨i0, hi0, hr0⟩ := first j hj hun'
      rw [show f + 1 + g = (f + g) + 1 by omega]
      refine ⟨fun h0 => (by rw [h0] at hr0; cases hr0), fun i hi => ?_⟩
      have hin : i < n := by
        rcases hw with hw | ⟨hs, hc⟩
        · obtain ⟨_, o, ho, _⟩ := mem_ready.1 hi
          have := (Array.getElem?_eq_some_iff.1 ho).1
          simp at this; omega
        · rcases Nat.lt_or_ge i n with h' | h'
          · exact h'
          · rcases Nat.lt_or_ge n l.length with hlt | hge
            · exact absurd hi (tail_waits hs hc (by simpa using hlt) inv _ j rfl hj hun' i h')
            · obtain ⟨_, o, ho, _⟩ := mem_ready.1 hi
              have := (Array.getElem?_eq_some_iff.1 ho).1
              simp at this; omega
      have hui := (mem_ready.1 hi).1
      exact wpOp_mono (fun a' W' h' => ih _ a' W' (by have := left_set hin hui; omega) (inv.set hi hin) h') (hstep m a W i hJ hin hsz hi)

def okB (md : Region.Mode) (l : List Oper) (n : Nat) : Bool :=
  decide (n ≤ l.length) && Region.noSelect l.toArray && Qt.backB md (l.take n) && apartB (l.take n).toArray (l.take n) && edgeB md (l.take n).toArray (l.take n) &&
    (decide (n = l.length) || (Region.sinkB md l.toArray n && Region.chainB md l.toArray n && Region.seqB md l.toArray (l.length - n) n (Qt.full l.length n)))

theorem act_ext {a b : Act} (hs : a.tmps.size = b.tmps.size) (hd : a.defers = b.defers) (h : ∀ s, a.eval (.tmp s) = b.eval (.tmp s)) : a = b := by
  obtain ⟨ta, da⟩ := a
  obtain ⟨tb, db⟩ := b
  simp only at hs hd
  subst hd
  have : ta = tb := by
    apply Array.ext hs
    intro i h1 h2
    have := h i
    simp only [Act.eval, Array.getD_eq_getD_getElem?, Array.getElem?_eq_getElem h1, Array.getElem?_eq_getElem h2, Option.getD_some] at this
    exact this
  rw [this]

/-- **A drawn region, its head walked once**: behind it the frame has what the walk says, the world is one that the class lets come. -/
theorem region {id : Nat} {Q : Exit → Act → World → Prop} {a : Act} {w : World} {l : List Oper} (ρ : Rl) (n : Nat) (hm : P.follows .mixedOrders = true) (hB : okB .any l n = true)
    (h : walk P ρ (l.take n).toArray w (fun U A => ∀ p : Lat ρ w, opened U p.W A fun a' => wpList P l.toArray Q (l.drop n) a' p.W) (l.take n) [] a) : (Code.region id l.toArray true).wp P Q a w := by
  simp only [okB, Bool.and_eq_true, decide_eq_true_eq, Bool.or_eq_true] at hB
  obtain ⟨⟨⟨⟨⟨hn, hsel⟩, hb⟩, hap⟩, hed⟩, htl⟩ := hB
  have hlen : (l.take n).length = n := by simp; omega
  obtain ⟨U, A, D, hQ⟩ := done_of_walk (ops := (l.take n).toArray) (w := w) (ρ := ρ) (P := P) (fun o cs b ho => by
      obtain ⟨i, hi⟩ := List.mem_iff_getElem?.1 ho
      have hin : i < n := by have := (List.getElem?_eq_some_iff.1 hi).1; simp at this; omega
      exact Region.noSelect_spec hsel i o cs b (by simpa [List.getElem?_take, hin] using hi)) (l.take n) [] a [] a (fun o ho => by simpa using ho) (by simpa using hap)
    { size := rfl, defers := rfl, other := fun _ _ => rfl, cert := fun o ho => (by cases ho), noBool := fun u hu => (by cases hu), hidden := fun u hu => (by cases hu), slots := fun u hu => (by cases hu), nodup := by simp } h
  simp only [List.nil_append] at D
  have key := any_of_inv (P := P) (md := .any) (l := l) (n := n) (Q' := Q) (g := l.length - n) (J := Inv ρ w l n U A) hb hn
    (by rcases htl with h1 | ⟨⟨h1, h2⟩, _⟩; exact .inl h1; exact .inr ⟨h1, h2⟩)
    (fun m a' W i I hi hsz hr => step_of hsel hap hed hb hn D I hi hsz hr)
    (fun f m a' W inv hd I => by
      have ea : fill a' U A = a' := by
        refine act_ext ((fill_size ..).trans I.size.symm) ((fill_defers ..).trans I.defers.symm) fun s => ?_
        by_cases hU : s ∈ U.map (·.1)
        · exact fill_at a' U I.size.symm hU
        · refine fill_keep a' U I.size.symm ?_
          by_cases hex : ∃ x ∈ l.take n, x.dst = some s
          · obtain ⟨x, hx, hxs⟩ := hex
            obtain ⟨k, hk⟩ := List.mem_iff_getElem?.1 hx
            have hkn : k < n := by have := (List.getElem?_eq_some_iff.1 hk).1; simp at this; omega
            exact (I.told k x s hkn (by simpa [List.getElem?_take, hkn] using hk) (hd k hkn) hxs hU).symm
          · exact (I.other s (fun x hx hxs => hex ⟨x, hx, hxs⟩)).symm
      have hK := opened_fill a' U (fun u hu => by
        obtain ⟨x, hx, hxs⟩ := D.slots u hu
        obtain ⟨k, hk⟩ := List.mem_iff_getElem?.1 hx
        have hkn : k < n := by have := (List.getElem?_eq_some_iff.1 hk).1; simp at this; omega
        exact I.such k x u.1 u.2 hkn (by simpa [List.getElem?_take, hkn] using hk) (hd k hkn) hxs hu) (hQ ⟨W, I.rel⟩)
      rw [ea] at hK
      have hseq : Region.seqB .any l.toArray (l.drop n).length n m = true := by
        rcases htl with h1 | ⟨_, h3⟩
        · have : l.drop n = [] := List.drop_eq_nil_of_le (by omega)
          rw [this]
          simp only [List.length_nil, Region.seqB]
          rw [List.isEmpty_iff, List.eq_nil_iff_forall_not_mem]
          intro i hi
          obtain ⟨hun, o, ho, _⟩ := mem_ready.1 hi
          have hlt := (Array.getElem?_eq_some_iff.1 ho).1
          simp at hlt
          rw [hd i (by omega)] at hun
          cases hun
        · rcases Nat.lt_or_ge n l.length with hlt | hge
          · rw [Qt.eq_full hlt inv hd]
            simpa using h3
          · have : l.drop n = [] := List.drop_eq_nil_of_le hge
            rw [this]
            simp only [List.length_nil, Region.seqB]
            rw [List.isEmpty_iff, List.eq_nil_iff_forall_not_mem]
            intro i hi
            obtain ⟨hun, o, ho, _⟩ := mem_ready.1 hi
            have hlt := (Array.getElem?_eq_some_iff.1 ho).1
            simp at hlt
            rw [hd i (by omega)] at hun
            cases hun
      have := Qt.any_of_seq (P := P) (md := .any) (l := l) (Q' := Q) (l.drop n) n f m a' W (fun j => by simp [List.getElem?_drop]) hseq hK
      simpa using this)
    n (Array.replicate l.toArray.size false) a w.drew (by
      unfold left
      exact Nat.le_trans (List.length_filter_le _ _) (by simp))
    ⟨by simp, fun j oj _ hl => (by rw [getD_replicate_false] at hl; cases hl), fun t _ ht => getD_in (by simpa using ht) (getD_replicate_false _ _)⟩
    ⟨ρ.drew w, D.size.symm, D.defers.symm, fun s hs => (D.other s hs).symm, fun j o d hj _ hm _ _ => (by
        rw [Array.getD_eq_getD_getElem?, Array.getElem?_replicate, if_pos (by rw [List.size_toArray]; omega)] at hm; cases hm),
      fun j o d φ hj _ hm _ _ => (by
        rw [Array.getD_eq_getD_getElem?, Array.getElem?_replicate, if_pos (by rw [List.size_toArray]; omega)] at hm; cases hm)⟩
  refine wp_region_any hm ?_
  rw [show n + (l.length - n) = l.toArray.size by simp; omega] at key
  exact key
end Og
end Go.Proofs.Ytookmjdnmmfkfaa
