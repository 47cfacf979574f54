/- Chapter 5's frames: what is read of bytes, and what a cut or turned frame is. Nothing of the program. -/
import Derived.Test.YtpafialojcidnaaGreatDoorFrPure
namespace Go.Proofs.YtpafialojcidnaaGreatDoor
namespace Fr

/-- a text's frame -/
def body (s : List UInt8) : List UInt8 := hi s.length 3 ++ s
def frame (s : List UInt8) : List UInt8 := body s ++ hi (sum (body s)) 4
theorem body_len (s : List UInt8) : (body s).length = s.length + 3 := by simp [body, hi_len]; omega
theorem frame_len (s : List UInt8) : (frame s).length = s.length + 7 := by simp [frame, body_len, hi_len]

/-- how long the text is of which these bytes tell -/
def num (r : List UInt8) : Nat := be (r.take 3)
/-- what is read of the bytes from a place on: the error (0: none), and the text -/
def first (r : List UInt8) : Nat × List UInt8 :=
  if r.length < 3 then (4, [])
  else if 65536 < num r then (2, [])
  else if r.length < num r + 7 then (4, [])
  else if sum (r.take (num r + 3)) ≠ be ((r.drop (num r + 3)).take 4) then (3, [])
  else (0, (r.drop 3).take (num r))
theorem first_short {r : List UInt8} (h : r.length < 3) : first r = (4, []) := by unfold first; rw [if_pos h]
theorem first_big {r : List UInt8} (h : 3 ≤ r.length) (h1 : 65536 < num r) : first r = (2, []) := by unfold first; rw [if_neg (by omega), if_pos h1]
theorem first_end {r : List UInt8} (h : 3 ≤ r.length) (h1 : num r ≤ 65536) (h2 : r.length < num r + 7) : first r = (4, []) := by unfold first; rw [if_neg (by omega), if_neg (by omega), if_pos h2]
theorem first_sum {r : List UInt8} (h1 : num r ≤ 65536) (h2 : num r + 7 ≤ r.length) (h3 : sum (r.take (num r + 3)) ≠ be ((r.drop (num r + 3)).take 4)) : first r = (3, []) := by
  unfold first; rw [if_neg (by omega), if_neg (by omega), if_neg (by omega), if_pos h3]
theorem first_ok {r : List UInt8} (h1 : num r ≤ 65536) (h2 : num r + 7 ≤ r.length) (h3 : sum (r.take (num r + 3)) = be ((r.drop (num r + 3)).take 4)) : first r = (0, (r.drop 3).take (num r)) := by
  unfold first; rw [if_neg (by omega), if_neg (by omega), if_neg (by omega), if_neg (by simpa using h3)]
/-- which of them it is -/
theorem first_cases (r : List UInt8) : (r.length < 3 ∧ first r = (4, [])) ∨ (3 ≤ r.length ∧ 65536 < num r ∧ first r = (2, [])) ∨ (3 ≤ r.length ∧ num r ≤ 65536 ∧ r.length < num r + 7 ∧ first r = (4, [])) ∨
    (num r ≤ 65536 ∧ num r + 7 ≤ r.length ∧ sum (r.take (num r + 3)) ≠ be ((r.drop (num r + 3)).take 4) ∧ first r = (3, [])) ∨
    (num r ≤ 65536 ∧ num r + 7 ≤ r.length ∧ sum (r.take (num r + 3)) = be ((r.drop (num r + 3)).take 4) ∧ first r = (0, (r.drop 3).take (num r))) := by
  by_cases h0 : r.length < 3
  · exact .inl ⟨h0, first_short h0⟩
  · by_cases h1 : 65536 < num r
    · exact .inr (.inl ⟨by omega, h1, first_big (by omega) h1⟩)
    · by_cases h2 : r.length < num r + 7
      · exact .inr (.inr (.inl ⟨by omega, by omega, h2, first_end (by omega) (by omega) h2⟩))
      · by_cases h3 : sum (r.take (num r + 3)) = be ((r.drop (num r + 3)).take 4)
        · exact .inr (.inr (.inr (.inr ⟨by omega, by omega, h3, first_ok (by omega) (by omega) h3⟩)))
        · exact .inr (.inr (.inr (.inl ⟨by omega, by omega, h3, first_sum (by omega) (by omega) h3⟩)))
/-- where a text is read, its frame lies there -/
theorem first_zero {r : List UInt8} (h : (first r).1 = 0) : (first r).2.length + 7 ≤ r.length ∧ (first r).2.length ≤ 65536 := by
  rcases first_cases r with ⟨_, e⟩ | ⟨_, _, e⟩ | ⟨_, _, _, e⟩ | ⟨_, _, _, e⟩ | ⟨h1, h2, _, e⟩
  · rw [e] at h; cases h
  · rw [e] at h; cases h
  · rw [e] at h; cases h
  · rw [e] at h; cases h
  · rw [e]; simp; omega
theorem first_bad {r : List UInt8} (h : (first r).1 ≠ 0) : (first r).2 = [] := by
  rcases first_cases r with ⟨_, e⟩ | ⟨_, _, e⟩ | ⟨_, _, _, e⟩ | ⟨_, _, _, e⟩ | ⟨h1, h2, _, e⟩
  · rw [e]
  · rw [e]
  · rw [e]
  · rw [e]
  · rw [e] at h; exact absurd rfl h
theorem first_le (r : List UInt8) : (first r).1 ≤ 4 := by
  rcases first_cases r with ⟨_, e⟩ | ⟨_, _, e⟩ | ⟨_, _, _, e⟩ | ⟨_, _, _, e⟩ | ⟨h1, h2, _, e⟩ <;> rw [e] <;> simp

/-- the frame of the text that lies there is what lies there just where the sum is the right one -/
theorem frame_there {r : List UInt8} (h2 : num r + 7 ≤ r.length) : frame ((r.drop 3).take (num r)) = r.take (num r + 7) ↔ sum (r.take (num r + 3)) = be ((r.drop (num r + 3)).take 4) := by
  have hl : ((r.drop 3).take (num r)).length = num r := by simp; omega
  have hb : body ((r.drop 3).take (num r)) = r.take (num r + 3) := by
    unfold body
    rw [hl, show hi (num r) 3 = r.take 3 from hi_be 3 _ (by simp; omega), Nat.add_comm (num r) 3, List.take_add]
  have ht : r.take (num r + 7) = r.take (num r + 3) ++ (r.drop (num r + 3)).take 4 := by
    rw [show num r + 7 = num r + 3 + 4 by omega, List.take_add]
  have h4 : ((r.drop (num r + 3)).take 4).length = 4 := by simp; omega
  unfold frame
  rw [hb, ht, List.append_cancel_left_eq]
  constructor
  · intro h
    rw [← h, be_hi 4 _ (by have := sum_lt (r.take (num r + 3)); simpa using this)]
  · intro h
    rw [h, hi_be 4 _ h4]

/-! ### all frames -/
def allF : Nat → List UInt8 → List (List UInt8)
  | 0, _ => []
  | f + 1, r => if (first r).1 = 0 then (first r).2 :: allF f (r.drop ((first r).2.length + 7)) else []
def all (r : List UInt8) : List (List UInt8) := allF r.length r
def place (l : List (List UInt8)) : Nat := (l.map fun x => x.length + 7).sum
theorem place_snoc (l : List (List UInt8)) (x : List UInt8) : place (l ++ [x]) = place l + (x.length + 7) := by simp [place]
theorem place_cons (l : List (List UInt8)) (x : List UInt8) : place (x :: l) = x.length + 7 + place l := by simp [place]
theorem allF_more : ∀ (f g : Nat) (r : List UInt8), r.length ≤ f → r.length ≤ g → allF f r = allF g r
  | 0, 0, _, _, _ => rfl
  | 0, g + 1, r, h, _ => by
    have : ¬ (first r).1 = 0 := fun h0 => by have := (first_zero h0).1; omega
    rw [allF, allF, if_neg this]
  | f + 1, 0, r, _, h => by
    have : ¬ (first r).1 = 0 := fun h0 => by have := (first_zero h0).1; omega
    rw [allF, allF, if_neg this]
  | f + 1, g + 1, r, hf, hg => by
    rw [allF, allF]
    by_cases h0 : (first r).1 = 0
    · have := (first_zero h0).1
      rw [if_pos h0, if_pos h0, allF_more f g _ (by simp; omega) (by simp; omega)]
    · rw [if_neg h0, if_neg h0]
theorem all_step {r : List UInt8} (h : (first r).1 = 0) : all r = (first r).2 :: all (r.drop ((first r).2.length + 7)) := by
  have h1 := (first_zero h).1
  unfold all
  obtain ⟨n, hn⟩ : ∃ n, r.length = n + 1 := ⟨r.length - 1, by omega⟩
  rw [hn, allF, if_pos h]
  exact congrArg _ (allF_more _ _ _ (by simp; omega) (Nat.le_refl _))
theorem all_stop {r : List UInt8} (h : (first r).1 ≠ 0) : all r = [] := by
  unfold all
  cases r.length with
  | zero => rfl
  | succ n => rw [allF, if_neg h]
/-- a frame that lies ahead is read -/
theorem first_frame (x q : List UInt8) (h : x.length ≤ 65536) : first (frame x ++ q) = (0, x) := by
  have e : frame x ++ q = hi x.length 3 ++ (x ++ (hi (sum (body x)) 4 ++ q)) := by simp [frame, body]
  have hn : num (frame x ++ q) = x.length := by
    unfold num
    rw [e, List.take_left' (hi_len _ _)]
    exact be_hi 3 _ (by omega)
  have e2 : frame x ++ q = body x ++ (hi (sum (body x)) 4 ++ q) := by simp [frame]
  have hlen : (frame x ++ q).length = x.length + 7 + q.length := by simp [frame_len]
  rw [first_ok (by omega) (by omega), hn]
  · rw [e, List.drop_left' (hi_len _ _), List.take_left' rfl]
  · rw [hn, e2, List.take_left' (body_len x), List.drop_left' (body_len x), List.take_left' (hi_len _ _), be_hi 4 _ (by have := sum_lt (body x); simpa using this)]
/-- a frame that is cut is none -/
theorem first_cut (x : List UInt8) (c : Nat) (h : x.length ≤ 65536) (hc : c < x.length + 7) : first ((frame x).take c) = (4, []) := by
  have hl : ((frame x).take c).length = c := by rw [List.length_take, frame_len]; omega
  by_cases h3 : c < 3
  · exact first_short (by omega)
  · have hn : num ((frame x).take c) = x.length := by
      unfold num
      rw [List.take_take, show min 3 c = 3 by omega]
      have e : frame x = hi x.length 3 ++ (x ++ hi (sum (body x)) 4) := by simp [frame, body]
      rw [e, List.take_left' (hi_len _ _)]
      exact be_hi 3 _ (by omega)
    exact first_end (by omega) (by omega) (by omega)
def flat (l : List (List UInt8)) : List UInt8 := l.flatMap frame
theorem flat_snoc (l : List (List UInt8)) (x : List UInt8) : flat (l ++ [x]) = flat l ++ frame x := by simp [flat]
theorem flat_len : ∀ (l : List (List UInt8)), (flat l).length = place l
  | [] => rfl
  | x :: l => by
    have := flat_len l
    rw [place_cons, ← this]
    simp [flat, frame_len]
/-- cut anywhere, the frames ahead of the cut are read -/
theorem all_cut : ∀ (l : List (List UInt8)) (c k : Nat), (∀ x ∈ l, x.length ≤ 65536) → k ≤ l.length → place (l.take k) ≤ c → (k < l.length → c < place (l.take (k + 1))) → all ((flat l).take c) = l.take k
  | [], c, k, _, hk, _, _ => by
    rw [show (flat []).take c = [] by simp [flat], List.take_nil]
    exact all_stop (by rw [first_short (by decide)]; decide)
  | x :: l, c, 0, hx, _, _, hc => by
    have hc := hc (by simp)
    have hc : c < x.length + 7 := hc
    have e : (flat (x :: l)).take c = (frame x).take c := by
      show (frame x ++ flat l).take c = _
      rw [List.take_append_of_le_length (by rw [frame_len]; omega)]
    rw [e, List.take_zero]
    exact all_stop (by rw [first_cut x c (hx x (List.mem_cons_self ..)) (by omega)]; decide)
  | x :: l, c, k + 1, hx, hk, h1, h2 => by
    rw [List.take_succ_cons, place_cons] at h1
    have e : (flat (x :: l)).take c = frame x ++ (flat l).take (c - (x.length + 7)) := by
      show (frame x ++ flat l).take c = _
      rw [List.take_append, frame_len, List.take_of_length_le (by rw [frame_len]; omega)]
    have hf := first_frame x ((flat l).take (c - (x.length + 7))) (hx x (List.mem_cons_self ..))
    rw [e, all_step (by rw [hf]), hf, List.take_succ_cons]
    refine congrArg _ ?_
    show all ((frame x ++ _).drop (x.length + 7)) = _
    rw [List.drop_left' (frame_len x)]
    refine all_cut l _ k (fun y hy => hx y (List.mem_cons_of_mem _ hy)) (by simpa using hk) (by omega) (fun hlt => ?_)
    have := h2 (by simpa using hlt)
    rw [List.take_succ_cons, place_cons] at this
    omega
theorem all_flat (l : List (List UInt8)) (h : ∀ x ∈ l, x.length ≤ 65536) : all (flat l) = l := by
  have := all_cut l (flat l).length l.length h (Nat.le_refl _) (by rw [List.take_length, flat_len]; omega) (fun h => absurd h (by omega))
  rwa [List.take_length, List.take_length] at this

/-! ### a frame that was turned -/
/-- some bytes exclusive-ored into others -/
def xorl : List UInt8 → List UInt8 → List UInt8
  | a :: l, b :: m => (a ^^^ b) :: xorl l m
  | [], _ => []
  | l, [] => l
theorem xorl_nil (l : List UInt8) : xorl l [] = l := by cases l <;> rfl
theorem xorl_len : ∀ (l m : List UInt8), (xorl l m).length = l.length
  | [], [] => rfl
  | [], _ :: _ => rfl
  | _ :: _, [] => rfl
  | _ :: l, _ :: m => by simp [xorl, xorl_len l m]
theorem xorl_part : ∀ (l m r : List UInt8), m.length ≤ l.length → xorl (l ++ r) m = xorl l m ++ r
  | [], [], r, _ => by simp [xorl_nil]
  | [], _ :: _, _, h => by simp at h
  | _ :: _, [], _, _ => rfl
  | a :: l, b :: m, r, h => by simp [xorl, xorl_part l m r (by simpa using h)]
theorem xorl_take : ∀ (l m : List UInt8) (i : Nat) (h : i < m.length) (h' : i < l.length), xorl l (m.take (i + 1)) = (xorl l (m.take i)).set i (l[i] ^^^ m[i])
  | _, [], _, h, _ => by simp at h
  | [], _ :: _, _, _, h => by simp at h
  | a :: l, b :: m, 0, _, _ => by simp [xorl, xorl_nil]
  | a :: l, b :: m, i + 1, h, h' => by simp [xorl, xorl_take l m i (by simpa using h) (by simpa using h')]
theorem xorl_get : ∀ (l m : List UInt8) (i : Nat) (h' : i < l.length), (xorl l (m.take i))[i]? = some l[i]
  | [], _, _, h => by simp at h
  | a :: l, m, 0, _ => by simp [xorl_nil]
  | a :: l, [], i + 1, h => by simp [xorl]
  | a :: l, b :: m, i + 1, h => by simp [xorl, xorl_get l m i (by simpa using h)]
theorem xor_zero8 (a b : UInt8) (h : a ^^^ b = a) : b = 0 := by
  have := congrArg (a ^^^ ·) h
  simpa [← UInt8.xor_assoc] using this
theorem xorl_same : ∀ (l m : List UInt8), m.length ≤ l.length → xorl l m = l → m.all (· == 0) = true
  | _, [], _, _ => rfl
  | [], _ :: _, h, _ => by simp at h
  | a :: l, b :: m, h, e => by
    simp only [xorl, List.cons.injEq] at e
    rw [List.all_cons, xor_zero8 a b e.1, xorl_same l m (by simpa using h) e.2]
    rfl
theorem xorl_zero : ∀ (l m : List UInt8), m.all (· == 0) = true → xorl l m = l
  | [], [], _ => rfl
  | [], _ :: _, _ => rfl
  | _ :: _, [], _ => rfl
  | a :: l, b :: m, h => by
    simp only [List.all_cons, Bool.and_eq_true, beq_iff_eq] at h
    obtain ⟨rfl, h⟩ := h
    simp [xorl, xorl_zero l m h]

/-- the bytes that are turned: of the text up to four, of the sum one -/
def bits (n k : Nat) (b : List UInt8) : List UInt8 := if k < n then b.take (n - k) else b.take 1
def turn (s : List UInt8) (k : Nat) (b : List UInt8) : List UInt8 := (frame s).take (3 + k) ++ xorl ((frame s).drop (3 + k)) b
theorem turn_text (s : List UInt8) (k : Nat) (b : List UInt8) (hk : k < s.length) (h4 : b.length ≤ 4) (hb : b.length ≤ s.length - k) (hn : b.all (· == 0) = false) (hs : s.length ≤ 65536) :
    first (turn s k b) = (3, []) := by
  have hkl : k ≤ s.length := by omega
  obtain ⟨m, hm⟩ : ∃ m, m = (s.drop k).take b.length := ⟨_, rfl⟩
  obtain ⟨q, hq⟩ : ∃ q, q = (s.drop k).drop b.length := ⟨_, rfl⟩
  have hml : m.length = b.length := by rw [hm]; simp; omega
  have hd : s.drop k = m ++ q := by rw [hm, hq, List.take_append_drop]
  have hs2 : s = s.take k ++ (m ++ q) := by rw [← hd, List.take_append_drop]
  have e1 : frame s = (hi s.length 3 ++ s.take k) ++ ((m ++ q) ++ hi (sum (body s)) 4) := by
    unfold frame body
    rw [List.append_assoc, List.append_assoc, ← List.append_assoc (s.take k), ← hs2]
  have hp : (hi s.length 3 ++ s.take k).length = 3 + k := by rw [List.length_append, hi_len, List.length_take]; omega
  have e2 : turn s k b = (hi s.length 3 ++ (s.take k ++ (xorl m b ++ q))) ++ hi (sum (body s)) 4 := by
    unfold turn
    rw [e1, List.take_left' hp, List.drop_left' hp, List.append_assoc m, xorl_part m b _ (by omega)]
    simp
  have hxl : (xorl m b).length = m.length := xorl_len m b
  have hlen : (hi s.length 3 ++ (s.take k ++ (xorl m b ++ q))).length = s.length + 3 := by
    have := congrArg List.length hs2
    simp only [List.length_append, hi_len, hxl] at this ⊢
    omega
  have hn3 : num (turn s k b) = s.length := by
    unfold num
    rw [e2, List.append_assoc, List.take_left' (hi_len _ _)]
    exact be_hi 3 _ (by omega)
  refine first_sum (by omega) (by rw [hn3, e2, List.length_append, hlen, hi_len]; exact Nat.le_refl _) ?_
  rw [hn3, e2, List.take_left' hlen, List.drop_left' hlen, show (hi (sum (body s)) 4).take 4 = hi (sum (body s)) 4 from List.take_of_length_le (by rw [hi_len]; exact Nat.le_refl _), be_hi 4 _ (by have := sum_lt (body s); simpa using this)]
  intro he
  have e3 : body s = (hi s.length 3 ++ s.take k) ++ (m ++ q) := by
    unfold body
    rw [List.append_assoc, ← hs2]
  rw [e3, ← List.append_assoc (hi s.length 3)] at he
  have := sum_burst (by omega) hxl he
  rw [xorl_same m b (by omega) this] at hn
  cases hn
theorem turn_sum (s : List UInt8) (k : Nat) (b : List UInt8) (hk : s.length ≤ k) (hb : b.length ≤ s.length + 4 - k) (hn : b.all (· == 0) = false) (hs : s.length ≤ 65536) :
    first (turn s k b) = (3, []) := by
  obtain ⟨d, hd⟩ : ∃ d, d = hi (sum (body s)) 4 := ⟨_, rfl⟩
  have hdl : d.length = 4 := by rw [hd, hi_len]
  have e0 : frame s = body s ++ d := by rw [hd]; rfl
  obtain ⟨j, rfl⟩ : ∃ j, k = s.length + j := ⟨k - s.length, by omega⟩
  have hbl := body_len s
  have e2 : turn s (s.length + j) b = body s ++ (d.take j ++ xorl (d.drop j) b) := by
    unfold turn
    rw [e0, List.take_append, List.drop_append, List.take_of_length_le (by omega), List.drop_eq_nil_of_le (by omega), hbl, show 3 + (s.length + j) - (s.length + 3) = j by omega, List.nil_append, List.append_assoc]
  have hxl : (d.take j ++ xorl (d.drop j) b).length = 4 := by
    rw [List.length_append, xorl_len, List.length_take, List.length_drop]; omega
  have hn3 : num (turn s (s.length + j) b) = s.length := by
    unfold num
    rw [e2, body, List.append_assoc, List.take_left' (hi_len _ _)]
    exact be_hi 3 _ (by omega)
  refine first_sum (by omega) (by rw [hn3, e2, List.length_append, hxl, hbl]; exact Nat.le_refl _) ?_
  rw [hn3, e2, List.take_left' hbl, List.drop_left' hbl, List.take_of_length_le (by omega)]
  intro he
  have e4 : d.take j ++ xorl (d.drop j) b = d.take j ++ d.drop j := by
    rw [List.take_append_drop]
    have := hi_be 4 _ hxl
    rw [← he, ← hd] at this
    exact this.symm
  rw [List.append_cancel_left_eq] at e4
  rw [xorl_same _ _ (by rw [List.length_drop]; omega) e4] at hn
  cases hn
theorem turn_none (s : List UInt8) (k : Nat) (b : List UInt8) (hn : b.all (· == 0) = true) : turn s k b = frame s := by
  unfold turn
  rw [xorl_zero _ _ hn, List.take_append_drop]
end Fr
end Go.Proofs.YtpafialojcidnaaGreatDoor
