/- Chapter 2's numbers, as integers and lists of bytes: nothing of the program. -/
import Derived.Lib.AtoiAllCases
import Derived.Lib.AtoiTie
import Derived.Lib.ItoaNum
import Derived.Lib.TrimByte
import Derived.Lib.Bytealg
import Derived.IntWalk
import Derived.RowKit
namespace Go.Proofs.YtoogfjndkecdfaaDoor
namespace Fx
open Go.Lib Go.RowKit

/-- the nearest fixed number -/
def clamp (n : Int) : Int := if 1073741824 < n then 1073741824 else if n < -1073741824 then -1073741824 else n
def Fixed (n : Int) : Prop := -1073741824 ≤ n ∧ n ≤ 1073741824
theorem clamp_fixed (n : Int) : Fixed (clamp n) := by unfold clamp Fixed; split <;> (try split) <;> omega
theorem clamp_of {n : Int} (h : Fixed n) : clamp n = n := by
  unfold Fixed at h
  unfold clamp
  rw [if_neg (by omega), if_neg (by omega)]
theorem clamp_clamp (n : Int) : clamp (clamp n) = clamp n := clamp_of (clamp_fixed n)

/-- the digits of u, at most k -/
def digF : Nat → Nat → List UInt8
  | 0, _ => []
  | k + 1, u => if u < 10 then [UInt8.ofNat (48 + u)] else digF k (u / 10) ++ [UInt8.ofNat (48 + u % 10)]
theorem digF_eq : ∀ (k u : Nat), u < 10 ^ (k + 1) → decDigits u = digF (k + 1) u
  | 0, u, h => by rw [decDigits, dif_pos (by simpa using h), digF, if_pos (by simpa using h)]
  | k + 1, u, h => by
    rw [decDigits, digF]
    by_cases h10 : u < 10
    · rw [dif_pos h10, if_pos h10]
    · rw [dif_neg h10, if_neg h10, digF_eq k (u / 10) (by rw [Nat.pow_succ] at h; omega)]
theorem digF_len : ∀ (k u : Nat), (digF k u).length ≤ k
  | 0, _ => Nat.le_refl _
  | k + 1, u => by
    unfold digF
    split
    · simp
    · have := digF_len k (u / 10)
      simp; omega
theorem digF_pos (k u : Nat) : 0 < (digF (k + 1) u).length := by
  unfold digF
  split <;> simp
theorem dig_nat (d : Nat) (h : d < 10) : (UInt8.ofNat (48 + d)).toNat = 48 + d := by rw [UInt8.toNat_ofNat']; omega
theorem digF_mem : ∀ (k u : Nat), ∀ c ∈ digF k u, 48 ≤ c.toNat ∧ c.toNat ≤ 57
  | 0, _, c, h => by simp [digF] at h
  | k + 1, u, c, h => by
    unfold digF at h
    split at h
    · rename_i hu
      have h := List.mem_singleton.1 h
      subst h
      have := dig_nat u hu
      omega
    · rcases List.mem_append.1 h with h | h
      · exact digF_mem k _ c h
      · have h := List.mem_singleton.1 h
        subst h
        have := dig_nat (u % 10) (by omega)
        omega
/-- what the digits of u spell, behind acc -/
theorem decFrom_append : ∀ (l : List UInt8) (acc : Nat) (r : List UInt8), decFrom acc (l ++ r) = (decFrom acc l).bind fun m => decFrom m r
  | [], acc, r => by simp [decFrom]
  | a :: t, acc, r => by
    simp only [List.cons_append, decFrom]
    cases digitVal a with
    | none => rfl
    | some d => exact decFrom_append t _ r
theorem decFrom_one (acc d : Nat) (h : d < 10) : decFrom acc [UInt8.ofNat (48 + d)] = some (acc * 10 + d) := by
  have hd : digitVal (UInt8.ofNat (48 + d)) = some d := by
    unfold digitVal
    rw [dig_nat d h, if_pos (by omega)]
    congr 1; omega
  unfold decFrom
  rw [hd]
  rfl
theorem decFrom_digF : ∀ (k u : Nat), u < 10 ^ (k + 1) → decFrom 0 (digF (k + 1) u) = some u
  | 0, u, h => by
    have h : u < 10 := by simpa using h
    rw [digF, if_pos h, decFrom_one 0 u h]; simp
  | k + 1, u, h => by
    rw [digF]
    by_cases h10 : u < 10
    · rw [if_pos h10, decFrom_one 0 u h10]; simp
    · rw [if_neg h10, decFrom_append, decFrom_digF k (u / 10) (by rw [Nat.pow_succ] at h; omega)]
      simp only [Option.bind_some]
      rw [decFrom_one _ _ (by omega)]
      congr 1; omega

/-- the digits behind the point of a rest -/
def tailF : Nat → Nat → List UInt8
  | 0, _ => []
  | k + 1, r => if r = 0 then [] else UInt8.ofNat (48 + r * 10 / 256) :: tailF k (r * 10 % 256)
def tail (r : Nat) : List UInt8 := tailF 8 r
/-- eight digits, with noughts ahead -/
def pad8 (m : Nat) : List UInt8 := (List.range 8).map fun i => UInt8.ofNat (48 + m / 10 ^ (7 - i) % 10)
def zeros : List UInt8 := [48, 48, 48, 48, 48, 48, 48, 48]
set_option maxRecDepth 100000 in
theorem tail_all : ∀ r : Nat, r < 256 → trimRightB (pad8 (r * 390625)) 48 = tail r ∧ (tail r ++ zeros).take 8 = pad8 (r * 390625) ∧ atoi (pad8 (r * 390625)) = some ((r * 390625 : Nat) : Int) ∧ (tail r).length ≤ 8 ∧ zeros.drop (digF 8 (r * 390625)).length ++ digF 8 (r * 390625) = pad8 (r * 390625) ∧ (pad8 (r * 390625)).length = 8 := by decide +kernel

/-- the text of a number -/
def showP (m : Nat) : List UInt8 := digF 7 (m / 256) ++ (if m % 256 = 0 then [] else 46 :: tail (m % 256))
def showL (n : Int) : List UInt8 := if clamp n < 0 then 45 :: showP (-clamp n).toNat else showP (clamp n).toNat
theorem showL_clamp (n : Int) : showL (clamp n) = showL n := by unfold showL; rw [clamp_clamp]

/-- the text without the sign: how long -/
theorem showP_len (m : Nat) : (showP m).length ≤ 16 ∧ 0 < (showP m).length := by
  have h1 := digF_len 7 (m / 256)
  have h2 : 0 < (digF 7 (m / 256)).length := digF_pos 6 (m / 256)
  have h3 := (tail_all (m % 256) (by omega)).2.2.2.1
  unfold showP
  rw [List.length_append]
  split <;> simp only [List.length_nil, List.length_cons] <;> omega
theorem showL_len (n : Int) : (showL n).length ≤ 17 := by
  unfold showL
  split
  · have := showP_len (-clamp n).toNat
    simp; omega
  · have := showP_len (clamp n).toNat
    omega

/-! ### the number whose text it is -/
theorem atoi_digF (k u : Nat) (h : u < 10 ^ (k + 1)) : atoi (digF (k + 1) u) = some (u : Int) := by
  have hd := decFrom_digF k u h
  have hp := digF_pos k u
  have hm := digF_mem (k + 1) u
  revert hd hp hm
  cases digF (k + 1) u with
  | nil => intro _ hp _; exact absurd hp (by simp)
  | cons c r =>
    intro hd _ hm
    have hc := hm c (List.mem_cons_self ..)
    have h45 : (c == 45) = false := by
      rw [beq_eq_false_iff_ne]
      intro e; subst e; exact absurd hc.1 (by decide)
    have h43 : (c == 43) = false := by
      rw [beq_eq_false_iff_ne]
      intro e; subst e; exact absurd hc.1 (by decide)
    show (if c == 45 then _ else if c == 43 then _ else (decNat (c :: r)).map fun (m : Nat) => (m : Int)) = _
    rw [h45, h43]
    simp only [Bool.false_eq_true, if_false]
    unfold decNat
    simp [hd]
/-- what Atoi hands back beside the error -/
def atoiV (l : List UInt8) : Int := match atoiAll l with
  | .ok v => v
  | .range => atoiSat l
  | _ => 0
theorem atoiV_short {l : List UInt8} {v : Int} (hl : l.length ≤ 18) (h : atoi l = some v) : atoiV l = v := by
  unfold atoiV
  rw [atoiAll_short l hl, h]
  rfl
theorem atoiV_bd (l : List UInt8) : -9223372036854775808 ≤ atoiV l ∧ atoiV l ≤ 9223372036854775807 := by
  unfold atoiV
  split
  · rename_i v h
    exact atoiAll_bounds h
  · exact atoiSat_bounds l
  · omega

theorem indexByte_none {c : UInt8} : ∀ {l : List UInt8}, (∀ x ∈ l, x ≠ c) → indexByte l c = -1
  | [], _ => rfl
  | a :: l, h => by
    unfold indexByte
    rw [if_neg (by simpa using h a (List.mem_cons_self ..)), indexByte_none fun x hx => h x (List.mem_cons_of_mem _ hx)]
    rfl
theorem indexByte_at {c : UInt8} (r : List UInt8) : ∀ {l : List UInt8}, (∀ x ∈ l, x ≠ c) → indexByte (l ++ c :: r) c = l.length
  | [], _ => by simp [indexByte]
  | a :: l, h => by
    rw [List.cons_append, indexByte, if_neg (by simpa using h a (List.mem_cons_self ..)), indexByte_at r fun x hx => h x (List.mem_cons_of_mem _ hx)]
    have : ((l.length : Int) == -1) = false := by rw [beq_eq_false_iff_ne]; omega
    rw [this]
    simp
theorem indexByte_lt (c : UInt8) : ∀ (l : List UInt8), indexByte l c < l.length
  | [] => by simp [indexByte]
  | a :: l => by
    have := indexByte_lt c l
    unfold indexByte
    split
    · simp only [List.length_cons]; omega
    · split <;> simp only [List.length_cons] <;> omega

/-- what stands ahead of the first point, and what behind it -/
def ahead (l : List UInt8) : List UInt8 := if 0 ≤ indexByte l 46 then l.take (indexByte l 46).toNat else l
def behind (l : List UInt8) : List UInt8 := if 0 ≤ indexByte l 46 then l.drop ((indexByte l 46).toNat + 1) else []
theorem cut_showP (m : Nat) : ahead (showP m) = digF 7 (m / 256) ∧ behind (showP m) = tail (m % 256) := by
  have hd : ∀ x ∈ digF 7 (m / 256), x ≠ 46 := fun x hx e => by
    have := digF_mem 7 _ x hx
    subst e
    exact absurd this.1 (by decide)
  unfold ahead behind showP
  by_cases h0 : m % 256 = 0
  · rw [if_pos h0, List.append_nil, indexByte_none hd, h0]
    exact ⟨rfl, rfl⟩
  · rw [if_neg h0, indexByte_at _ hd, if_pos (by omega), if_pos (by omega)]
    constructor <;> simp

/-- the only number whose text l may be -/
def candL (l : List UInt8) : Int :=
  let s := trimPrefix l [45]
  let n := wrap64 (wrap64 (atoiV (ahead s) * 256) + (atoiV ((behind s ++ zeros).take 8)).tdiv 390625)
  if 17 < l.length then 0 else if hasPrefix l [45] then wrap64 (-n) else n
theorem head_showP (m : Nat) : hasPrefix (showP m) [45] = false := by
  have hp : 0 < (digF 7 (m / 256)).length := digF_pos 6 (m / 256)
  have hm := digF_mem 7 (m / 256)
  unfold showP
  revert hp hm
  cases digF 7 (m / 256) with
  | nil => intro hp; exact absurd hp (by simp)
  | cons c r =>
    intro _ hm
    have hc := hm c (List.mem_cons_self ..)
    have h45 : ((45 : UInt8) == c) = false := by
      rw [beq_eq_false_iff_ne]
      intro e; subst e; exact absurd hc.1 (by decide)
    simp [hasPrefix, List.isPrefixOf, h45]
theorem wrap64_of {n : Int} (h1 : -9223372036854775808 ≤ n) (h2 : n ≤ 9223372036854775807) : wrap64 n = n := by unfold wrap64; omega
theorem cand_mag (m : Nat) (hm : m ≤ 1073741824) : wrap64 (wrap64 (atoiV (ahead (showP m)) * 256) + (atoiV ((behind (showP m) ++ zeros).take 8)).tdiv 390625) = m := by
  obtain ⟨_, h2, h3, _, _, h8⟩ := tail_all (m % 256) (by omega)
  have a7 : atoi (digF 7 (m / 256)) = some ((m / 256 : Nat) : Int) := atoi_digF 6 _ (by omega)
  rw [(cut_showP m).1, (cut_showP m).2, h2, atoiV_short (by have := digF_len 7 (m / 256); omega) a7, atoiV_short (by omega) h3]
  have e : (((m % 256 * 390625 : Nat) : Int)).tdiv 390625 = ((m % 256 : Nat) : Int) := by
    rw [Int.tdiv_eq_ediv_of_nonneg (by omega)]
    omega
  have w1 : wrap64 (((m / 256 : Nat) : Int) * 256) = ((m / 256 : Nat) : Int) * 256 := wrap64_of (by omega) (by omega)
  rw [e, w1, wrap64_of (by omega) (by omega)]
  omega
theorem cand_back (n : Int) (h : Fixed n) : candL (showL n) = n := by
  have hl := showL_len n
  unfold candL
  rw [if_neg (by omega)]
  unfold showL
  rw [clamp_of h]
  unfold Fixed at h
  by_cases h0 : n < 0
  · rw [if_pos h0]
    have hp : hasPrefix (45 :: showP (-n).toNat) [45] = true := by simp [hasPrefix, List.isPrefixOf]
    have ht : trimPrefix (45 :: showP (-n).toNat) [45] = showP (-n).toNat := by unfold trimPrefix; rw [hp]; rfl
    rw [hp, ht, if_pos rfl]
    show wrap64 (-(wrap64 (wrap64 _ + _))) = n
    rw [cand_mag _ (by omega), wrap64_of (by omega) (by omega)]
    omega
  · rw [if_neg h0]
    have hp := head_showP n.toNat
    have ht : trimPrefix (showP n.toNat) [45] = showP n.toNat := by unfold trimPrefix; rw [hp]; rfl
    rw [hp, ht]
    show wrap64 (wrap64 _ + _) = n
    rw [cand_mag _ (by omega)]
    omega

/-- what Read tells of a text -/
def ReadsAs (l : List UInt8) (n bad : Int) : Prop := (bad = 0 ∧ Fixed n ∧ showL n = l) ∨ (n = 0 ∧ bad = 2 ∧ ∀ m, Fixed m → showL m ≠ l)
theorem showL_inj {m n : Int} (hm : Fixed m) (hn : Fixed n) (h : showL m = showL n) : m = n := by
  rw [← cand_back m hm, h, cand_back n hn]
theorem reads_one {l : List UInt8} {n bad n' bad' : Int} (h : ReadsAs l n bad) (h' : ReadsAs l n' bad') : n = n' ∧ bad = bad' := by
  rcases h with ⟨rfl, hf, hs⟩ | ⟨rfl, rfl, hno⟩
  · rcases h' with ⟨rfl, hf', hs'⟩ | ⟨rfl, rfl, hno'⟩
    · exact ⟨showL_inj hf hf' (hs.trans hs'.symm), rfl⟩
    · exact absurd hs (hno' _ hf)
  · rcases h' with ⟨rfl, hf', hs'⟩ | ⟨rfl, rfl, hno'⟩
    · exact absurd hs' (hno _ hf')
    · exact ⟨rfl, rfl⟩
theorem reads_back {n m bad : Int} (h : ReadsAs (showL n) m bad) : m = clamp n ∧ bad = 0 := by
  rcases h with ⟨rfl, hf, hs⟩ | ⟨_, _, hno⟩
  · exact ⟨showL_inj hf (clamp_fixed n) (hs.trans (showL_clamp n).symm), rfl⟩
  · exact absurd (showL_clamp n) (hno _ (clamp_fixed n))
/-- a reader that has one candidate, right for each text that is one -/
theorem reads_cand {l : List UInt8} {c : Int} (hc : ∀ m, Fixed m → showL m = l → c = m) : (showL c = l → ReadsAs l c 0) ∧ (showL c ≠ l → ReadsAs l 0 2) := by
  refine ⟨fun h => .inl ⟨rfl, ?_, h⟩, fun h => .inr ⟨rfl, rfl, fun m hm hs => h ?_⟩⟩
  · have := hc (clamp c) (clamp_fixed c) ((showL_clamp c).trans h)
    rw [this]; exact clamp_fixed c
  · rw [hc m hm hs]; exact hs
theorem reads_none {l : List UInt8} (h : ∀ m, Fixed m → showL m ≠ l) : ReadsAs l 0 2 := .inr ⟨rfl, rfl, h⟩
theorem candL_of {l : List UInt8} : ∀ m, Fixed m → showL m = l → candL l = m := fun m hm hs => by rw [← hs]; exact cand_back m hm
set_option maxRecDepth 100000 in
theorem ex_one : showL 1 = [48, 46, 48, 48, 51, 57, 48, 54, 50, 53] := by decide +kernel
set_option maxRecDepth 100000 in
theorem ex_back : showL (-640) = [45, 50, 46, 53] := by decide +kernel
set_option maxRecDepth 100000 in
theorem ex_none : showL 640 ≠ [50, 46, 53, 48] := by decide +kernel
theorem ex_cand : candL [50, 46, 53, 48] = 640 := by decide +kernel
theorem ex_bad {n bad : Int} (h : ReadsAs [50, 46, 53, 48] n bad) : bad = 2 := by
  rcases h with ⟨rfl, hf, hs⟩ | ⟨_, rfl, _⟩
  · have := candL_of n hf hs
    rw [ex_cand] at this
    subst this
    exact absurd hs ex_none
  · rfl
end Fx
end Go.Proofs.YtoogfjndkecdfaaDoor
