/- long: are there too many texts, or bytes? awake: chapter 5's examples. -/
import Derived.Test.YtpigepkkiceihaaDoorFrAll2
namespace Go.Proofs.YtpigepkkiceihaaDoor
open Go.RowKit
set_option linter.unusedVariables false

def total (l : List (List UInt8)) : Nat := l.foldl (fun n s => n + s.length) 0
theorem total_snoc (l : List (List UInt8)) (s : List UInt8) : total (l ++ [s]) = total l + s.length := by simp [total]
theorem total_take (l : List (List UInt8)) (k : Nat) : total (l.take k) ≤ total l := by
  suffices h : ∀ r : List (List UInt8), ∀ p, total p ≤ total (p ++ r) by
    have := h (l.drop k) (l.take k)
    rwa [List.take_append_drop] at this
  intro r
  induction r with
  | nil => intro p; simp
  | cons s r ih =>
    intro p
    have := ih (p ++ [s])
    rw [total_snoc] at this
    have e : p ++ [s] ++ r = p ++ s :: r := by simp
    rw [e] at this
    omega
theorem bool_ret {a b : Bool} (h : a = b) : Ending.returned (.bool a) = .returned (.bool b) := by rw [h]
def longB (l : List (List UInt8)) : Bool := decide (50 < l.length ∨ 100000 < total l)
theorem longB_t {l : List (List UInt8)} (h : 50 < l.length ∨ 100000 < total l) : longB l = true := decide_eq_true h
theorem longB_f {l : List (List UInt8)} (h : ¬ (50 < l.length ∨ 100000 < total l)) : longB l = false := decide_eq_false h
theorem take_one {l : List (List UInt8)} {k : Nat} (h : k < l.length) : l.take (k + 1) = l.take k ++ [l[k]] := List.take_succ_eq_append_getElem h

set_option maxHeartbeats 1000000 in
theorem long_any (A : Option Addr) (cap : Nat) (l : List (List UInt8)) (w : World) (hs : ∀ s ∈ l, s.length ≤ 140737488351232) (hr : Reads w w.heap.size A (strings l)) :
    Calls Tryd.prog 9 #[.slice A l.length cap] w fun e w' => e = .returned (.bool (longB l)) ∧ w = w' := by
  by_cases h50 : 50 < l.length
  · have HE := Lib.hid (longB_t (.inl h50))
    have h50' : (50 : Int) < (l.length : Int) := by omega
    go_enter Tryd.func9, Tryd.ntmps9
    go_wp2
    go_ret
    exact ⟨bool_ret (by rw [HE.out]), rfl⟩
  · have hd : decide ((50 : Int) < (l.length : Int)) = false := by simp; omega
    go_enter Tryd.func9, Tryd.ntmps9
    go_wp2
    go_loop [3, 4] (fun n i => ∃ k m : Nat, k ≤ l.length ∧ i = .int .i64 k ∧ n = .int .i64 m ∧ m ≤ 100000 ∧ Hid (m = total (l.take k))) (fun _ i => l.length - (intOf i).toNat)
    case atStart => exact ⟨0, 0, Nat.zero_le _, rfl, rfl, by omega, rfl⟩
    case round =>
      obtain ⟨k, m, hk, rfl, rfl, hm1, hm⟩ := hrel
      by_cases hlt : k < l.length
      · obtain ⟨x, hx⟩ : ∃ x, x = l[k] := ⟨_, rfl⟩
        obtain ⟨b, off, rfl, hbB, hc⟩ := hr.at_ (k := k) (by simpa [strings] using hlt)
        have hcw : w.cell? ⟨b, off + k, none⟩ = some (.string ⟨x.toArray⟩) := by rw [hc, hx]; simp [strings]
        have hxl : x.length ≤ 140737488351232 := hs x (by rw [hx]; exact List.getElem_mem _)
        have HN : Hid (m + x.length = total (l.take (k + 1))) := Lib.hid (by rw [take_one hlt, total_snoc, ← hm.out, hx])
        have hle := total_take l (k + 1)
        rw [← HN.out] at hle
        clear hx hc
        by_cases hbig : 100000 < m + x.length
        · have HE := Lib.hid (longB_t (l := l) (.inr (by omega)))
          have hbig' : (100000 : Int) < (m : Int) + (x.length : Int) := by omega
          clear hle
          go_wp2
          go_ret
          exact ⟨bool_ret (by rw [HE.out]), rfl⟩
        · have hbig' : ¬ (100000 : Int) < (m : Int) + (x.length : Int) := by omega
          clear hle
          go_wp2
          go_round
          case rel => exact ⟨k + 1, m + x.length, by omega, by go_num, by go_num, by omega, HN⟩
          case measure => simp [intOf]; omega
      · have HE := Lib.hid (longB_f (l := l) (by rw [hm.out, show k = l.length by omega, List.take_length] at hm1; omega))
        clear hm
        go_wp2
        go_ret
        exact ⟨bool_ret (by rw [HE.out]), rfl⟩


theorem ex_sum : Fr.sum [49, 50, 51, 52, 53, 54, 55, 56, 57] = 3421780262 := by decide +kernel
theorem ex_first (f : List UInt8) (hf : f = Fr.frame [97, 98]) : Reads1 f (0 : Int) = .tuple #[.string ⟨#[97, 98]⟩, .int .i64 9, .int .i64 0] := by
  have h : Fr.first (f.drop 0) = (0, [97, 98]) := by
    have := Fr.first_frame [97, 98] [] (by decide)
    rw [List.append_nil] at this
    rw [hf]
    exact this
  exact reads1_ok (s := f) (p := 0) (Nat.zero_le _) h
theorem ex_all (f : List UInt8) (hf : f = Fr.frame [97, 98]) : Fr.all (f ++ f ++ [120]) = [[97, 98], [97, 98]] := by
  obtain ⟨x, hx⟩ : ∃ x : List UInt8, x = [97, 98] := ⟨_, rfl⟩
  have hxl : x.length ≤ 65536 := by rw [hx]; decide
  rw [← hx] at hf ⊢
  clear hx
  have h1 := Fr.first_frame x (Fr.frame x ++ [120]) hxl
  have h2 := Fr.first_frame x [120] hxl
  have l : (Fr.frame x).length = x.length + 7 := Fr.frame_len x
  rw [hf, List.append_assoc, Fr.all_step (by rw [h1]), h1]
  show x :: Fr.all (List.drop (x.length + 7) _) = _
  rw [← l, List.drop_left, Fr.all_step (by rw [h2]), h2]
  show x :: x :: Fr.all (List.drop (x.length + 7) _) = _
  rw [← l, List.drop_left, Fr.all_stop (by rw [Fr.first_short (by simp)]; simp)]

set_option maxHeartbeats 2000000 in
set_option maxRecDepth 100000 in
theorem awake_any (w : World) (hg : Good w) : Calls Tryd.prog 10 #[] w fun e w' => e = .returned (.bool true) ∧ Below w.heap.size w w' := by
  obtain ⟨f, hf⟩ : ∃ f, f = Fr.frame [97, 98] := ⟨_, rfl⟩
  have hfl : f.length = 9 := by rw [hf]; exact Fr.frame_len [97, 98]
  have M := Lib.hid (fun W (hW : Good W) => frame_small [97, 98] W (by decide) hW)
  rw [← hf] at M
  have F := Lib.hid (fun W (hW : Good W) => first_any f 0 W (by omega) hW)
  rw [ex_first f hf] at F
  obtain ⟨ff, hff⟩ : ∃ ff, ff = f ++ f := ⟨_, rfl⟩
  obtain ⟨g, hgg⟩ : ∃ g, g = ff ++ [120] := ⟨_, rfl⟩
  have hffl : ff.length = 18 := by rw [hff, List.length_append]; omega
  have hgl : g.length = 19 := by rw [hgg, List.length_append, hffl]; rfl
  have e1 := sum_two f f (by omega)
  have e2 := sum_two ff [120] (by simp; omega)
  have A := Lib.hid (fun W (hW : Good W) => all_any g W (by omega) hW)
  have ha : Fr.all g = [[97, 98], [97, 98]] := by rw [hgg, hff, ex_all f hf]
  rw [ha] at A
  rw [← hff] at e1
  rw [← hgg] at e2
  have hx2 : (([97, 98] : List UInt8) == [97, 98]) = true := by decide
  have S := Lib.hid (fun W (hW : Good W) => sum_pair [49, 50, 51, 52] [53, 54, 55, 56, 57] W (by decide) (by decide) hW)
  have ex := ex_sum
  rw [show ([49, 50, 51, 52] : List UInt8) ++ [53, 54, 55, 56, 57] = [49, 50, 51, 52, 53, 54, 55, 56, 57] from rfl, ex] at S
  have hl9 : (f.length : Int) = 9 := by omega
  clear hf ex hff hgg ha hffl hgl
  go_enter Tryd.func10, Tryd.ntmps10
  go_wp2_with fail
  refine (M.out _ hg).mono ?_
  rintro e w1 ⟨rfl, b1⟩
  have G1 : Good w1 := hg.below b1 (Nat.le_refl _)
  go_wp2_with fail
  refine (F.out _ G1).mono ?_
  rintro e w2 ⟨rfl, h2⟩
  have b2 := b1.trans (h2.mono b1.size)
  clear b1 h2 G1
  have G2 : Good w2 := hg.below b2 (Nat.le_refl _)
  go_wp2_with fail
  refine (A.out _ G2).mono ?_
  rintro e w3 ⟨v, rfl, own, h3⟩
  obtain ⟨B, cap, rfl⟩ := owns_len own
  have b3 := b2.trans (h3.mono b2.size)
  clear b2 h3 own G2
  have G3 : Good w3 := hg.below b3 (Nat.le_refl _)
  go_wp2_with fail
  refine (S.out _ G3).mono ?_
  rintro e w4 ⟨rfl, h4⟩
  have b4 := b3.trans (h4.mono b3.size)
  clear b3 h4 G3
  go_wp2
  go_ret
  exact ⟨rfl, b4⟩
end Go.Proofs.YtpigepkkiceihaaDoor
