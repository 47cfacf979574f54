/- The law FrameBack, walked. -/
import Derived.Test.YtpigepkkiceihaaDoorFrLaw1
namespace Go.Proofs.YtpigepkkiceihaaDoor
open Go.RowKit
set_option linter.unusedVariables false

theorem int_info : (Tryd.prog.info? 3).map (fun i => (i.zero, i.size, i.bytes)) = some (some (.int .i64 0), 1, 8) := by kernel_rfl
theorem ints_und : Tryd.prog.underlying 42 = some (.slice 3) := by kernel_rfl
/-- a row of ints that the call itself made -/
abbrev Own (W : World) (B : Nat) (v : Value) (l : List Int) : Prop := W.ownsRow B 3 1 v l.length (l.map (Value.int .i64))
theorem own_nil (W : World) (B : Nat) : Own W B (.slice none 0 0) [] := World.ownsRow_nil _ _ _ _
theorem own_below {W W' : World} {B : Nat} {v : Value} {l : List Int} (h : Own W B v l) (hb : Below W.heap.size W W') : Own W' B v l :=
  World.ownsRow.kept h (below_grown hb) (by cases v.ownBlock <;> simp)
theorem own_base {W : World} {B B' : Nat} {v : Value} {l : List Int} (h : Own W B v l) (hb : B' ≤ B) : Own W B' v l := by
  refine ⟨h.1, ?_⟩
  rcases h.2 with hn | ⟨g, cap, cur, e, hg, rest⟩
  · exact .inl hn
  · exact .inr ⟨g, cap, cur, e, by omega, rest⟩
theorem push_step {B : Nat} {w wr w1 : World} {v v' : Value} {l : List Int} {x : Int} {o : Obj} (hown : Own wr B v l) (hnx : Below B w wr) (hB : B ≤ wr.heap.size)
    (hown' : w1.ownsRow B 3 1 v' (l.length + 1) (l.map (Value.int .i64) ++ [.int .i64 x])) (hgrow : (wr.alloc o).grownBy w1 v.ownBlock) : Own w1 B v' (l ++ [x]) ∧ Below B w w1 :=
  ⟨by show w1.ownsRow B 3 1 v' (l ++ [x]).length ((l ++ [x]).map (Value.int .i64)); simpa using hown', (hnx.alloc hB o).grown hgrow (by simp; omega) (fun j hj => (World.ownsRow.lt hown j hj).1)⟩
theorem own_len {W : World} {B : Nat} {v : Value} {l : List Int} (h : Own W B v l) : ∃ A cap, v = .slice A l.length cap := by
  rcases h.2 with ⟨hv, hn⟩ | ⟨g, cap, cur, hv, _⟩
  · exact ⟨none, 0, by rw [hv, hn]⟩
  · exact ⟨_, cap, hv⟩
/-- the row's slice and its cells -/
theorem own_at {W : World} {B : Nat} {v : Value} {l : List Int} (h : Own W B v l) : ∃ A cap, v = .slice A l.length cap ∧ Reads W W.heap.size A (ints l) := by
  rcases h.2 with ⟨hv, hn⟩ | ⟨g, cap, cur, hv, _, hg, _⟩
  · refine ⟨none, 0, by rw [hv, hn], fun h0 => ?_⟩
    rw [show ints l = [] by unfold ints; rw [List.length_eq_zero_iff.1 hn]; rfl] at h0
    simp at h0
  · refine ⟨_, cap, hv, fun _ => ⟨g, 0, rfl, (Array.getElem?_eq_some_iff.1 hg).1, fun k x hk => ?_⟩⟩
    have := World.ownsRow.cells h (g := g) (by rw [hv]; rfl) k x hk
    rwa [show (⟨g, 0, none⟩ : Addr).add k = ⟨g, 0 + k, none⟩ by unfold Addr.add; split <;> simp_all] at this


theorem reads_takes {w : World} {B : Nat} {A : Option Addr} {l : List (List UInt8)} (h : Reads w B A (strings l)) (k : Nat) : Reads w B A (strings (l.take k)) := fun h0 => by
  obtain ⟨b, off, rfl, hB, hc⟩ := h (by simp [strings] at h0 ⊢; omega)
  refine ⟨b, off, rfl, hB, fun j v hv => hc j v ?_⟩
  have hj : j < k := by
    have := (List.getElem?_eq_some_iff.1 hv).1
    simp [strings] at this; omega
  rw [← hv]
  simp [strings, hj]
theorem same_n (A : Option Addr) (cap : Nat) (A2 : Option Addr) (cap2 n m : Nat) (l : List (List UInt8)) (w : World) (B B2 : Nat) (hn : l.length = n) (hm : l.length = m) (hl : l.length ≤ 140737488351232) (hr : Reads w B A (strings l)) (hr2 : Reads w B2 A2 (strings l)) :
    Calls Tryd.prog 19 #[.slice A n cap, .slice A2 m cap2] w fun e w' => e = .returned (.bool true) ∧ Below w.heap.size w w' := by
  subst hn
  subst hm
  exact same_any A cap A2 cap2 l w B B2 hl hr hr2
/-- where the frames end -/
def ends (l : List (List UInt8)) (k : Nat) : List Int := (List.range k).map fun j => (Fr.place (l.take (j + 1)) : Int)
theorem ends_succ (l : List (List UInt8)) (k : Nat) : ends l (k + 1) = ends l k ++ [(Fr.place (l.take (k + 1)) : Int)] := by simp [ends, List.range_succ]
theorem ends_len (l : List (List UInt8)) (k : Nat) : (ends l k).length = k := by simp [ends]
theorem ends_at (l : List (List UInt8)) (k j : Nat) (h : j < k) : (ends l k)[j]'(by rw [ends_len]; exact h) = (Fr.place (l.take (j + 1)) : Int) := by simp [ends]
theorem flat_one (l : List (List UInt8)) (k : Nat) (h : k < l.length) : Fr.flat (l.take (k + 1)) = Fr.flat (l.take k) ++ Fr.frame l[k] := by
  rw [List.take_succ_eq_append_getElem h, Fr.flat_snoc]
theorem place_total (l : List (List UInt8)) : Fr.place l = total l + 7 * l.length := by
  have : ∀ (l : List (List UInt8)) (n : Nat), l.foldl (fun n s => n + s.length) n + 7 * l.length = n + Fr.place l := by
    intro l
    induction l with
    | nil => intro n; simp [Fr.place]
    | cons x l ih => intro n; rw [List.foldl_cons, Fr.place_cons, List.length_cons]; have := ih (n + x.length); omega
  unfold total
  rw [this]
  simp
theorem place_take (l : List (List UInt8)) (k : Nat) : Fr.place (l.take k) ≤ Fr.place l := by
  have h1 := place_total l
  have h2 := place_total (l.take k)
  have h3 := total_take l k
  have h4 : (l.take k).length ≤ l.length := List.length_take_le' k l
  omega
/-- the number that the cut is brought to -/
theorem cut_is (cut : Int) (n : Nat) (hn : n ≤ 1000000) : ∃ (x : Int) (c : Nat), cut.tmod ((n : Int) + 1) = x ∧ (x + n + 1).tmod ((n : Int) + 1) = (c : Int) ∧ c ≤ n ∧ -1000002 ≤ x ∧ x ≤ 1000002 := by
  have h0 : ((n : Int) + 1) ≠ 0 := by omega
  have a1 := Int.tmod_lt_of_pos cut (show 0 < (n : Int) + 1 by omega)
  have a2 := Int.lt_tmod_of_pos cut (show 0 < (n : Int) + 1 by omega)
  have b0 : 0 ≤ cut.tmod ((n : Int) + 1) + n + 1 := by omega
  have b1 := Int.tmod_eq_emod_of_nonneg (b := (n : Int) + 1) b0
  have b2 := Int.emod_nonneg (cut.tmod ((n : Int) + 1) + n + 1) h0
  have b3 := Int.emod_lt_of_pos (cut.tmod ((n : Int) + 1) + n + 1) (show 0 < (n : Int) + 1 by omega)
  exact ⟨_, ((cut.tmod ((n : Int) + 1) + n + 1).tmod ((n : Int) + 1)).toNat, rfl, by omega, by omega, by omega, by omega⟩

set_option maxHeartbeats 4000000 in
set_option maxRecDepth 100000 in
theorem law_back (w : World) (hg : Good w) (A : Option Addr) (cap : Nat) (l : List (List UInt8)) (hcl : l.length ≤ cap) (hcap : cap ≤ 140737488351232) (hs : ∀ s ∈ l, s.length ≤ 140737488351232) (hr : Reads w w.heap.size A (strings l))
    (cut : Int) (hcut : -9223372036854775808 ≤ cut ∧ cut ≤ 9223372036854775807) :
    Calls Tryd.prog 7 #[.slice A l.length cap, .int .i64 cut] w fun e w' => e = .returned (.bool true) ∧ Below w.heap.size w w' := by
  have cl := long_any A cap l w hs hr
  by_cases hlong : longB l = true
  · rw [hlong] at cl
    have CL := Lib.hid cl
    clear cl hlong
    go_enter Tryd.func7, Tryd.ntmps7
    go_wp2_with fail
    refine CL.out.mono ?_
    rintro e w' ⟨rfl, rfl⟩
    go_wp2_with fail
    refine (awake_hid.out _ hg).mono ?_
    rintro e w1 ⟨rfl, b1⟩
    go_wp2
    go_ret
    exact ⟨rfl, b1⟩
  · have hf : longB l = false := by simpa using hlong
    rw [hf] at cl
    have hs2 : ¬ (50 < l.length ∨ 100000 < total l) := of_decide_eq_false hf
    have hl : l.length ≤ 50 := by omega
    have hpt := place_total l
    have hpl : Fr.place l ≤ 100350 := by omega
    have CL := Lib.hid cl
    have HS := Lib.hid hs
    have HR := Lib.hid hr
    have HG := Lib.hid hg
    clear cl hlong hf hs2 hpt hs hr hg
    obtain ⟨i0, hi, hz0, hz1, hz2⟩ := info_parts int_info
    have HI := Lib.hid (And.intro hi (And.intro hz0 (And.intro hz1 hz2)))
    clear hi hz0 hz1 hz2
    have B0 := Lib.hid (Below.refl w.heap.size w)
    go_enter Tryd.func7, Tryd.ntmps7
    go_wp2_with fail
    refine CL.out.mono ?_
    rintro e w' ⟨rfl, rfl⟩
    clear CL
    go_wp2
    go_loopw [5, 6, 7] (fun s en i wr => ∃ (k : Nat) (acc : List UInt8), k ≤ l.length ∧ i = .int .i64 k ∧ s = .string ⟨acc.toArray⟩ ∧ Hid (acc = Fr.flat (l.take k)) ∧ Hid (∀ x ∈ l.take k, x.length ≤ 65536) ∧ Hid (Own wr w.heap.size en (ends l k)) ∧ Hid (Below w.heap.size w wr)) (fun _ _ i _ => l.length - (intOf i).toNat)
    case atStart => exact ⟨0, [], Nat.zero_le _, rfl, rfl, Lib.hid rfl, Lib.hid (fun x hx => by simp at hx), Lib.hid (own_nil _ _), B0⟩
    case round =>
      obtain ⟨k, acc, hk, rfl, rfl, hacc, hsm, hown, hbel⟩ := hrel
      clear B0
      have hsz := hbel.out.size
      by_cases hlt : k < l.length
      · obtain ⟨x, hx⟩ : ∃ x, x = l[k] := ⟨_, rfl⟩
        have hxm : x ∈ l := by rw [hx]; exact List.getElem_mem _
        have hxl := HS.out x hxm
        obtain ⟨b, off, rfl, hbB, hc⟩ := HR.out.at_ (k := k) (by simpa [strings] using hlt)
        have hcw : wr.cell? ⟨b, off + k, none⟩ = some (.string ⟨x.toArray⟩) := (hbel.out.cell (p := ⟨b, off + k, none⟩) hbB).trans (by rw [hc, hx]; simp [strings])
        by_cases hbig : 65536 < x.length
        · have M := Lib.hid (frame_big x wr hxl hbig)
          have hbig' : (65536 : Int) < (x.length : Int) := by omega
          clear hc hx hxm hacc hsm hown
          go_wp2_with fail
          refine M.out.mono ?_
          rintro e w1 ⟨rfl, h1⟩
          have b1 := hbel.out.trans (h1.mono hsz)
          have hcw1 : w1.cell? ⟨b, off + k, none⟩ = some (.string ⟨x.toArray⟩) := (h1.cell (p := ⟨b, off + k, none⟩) (Nat.lt_of_lt_of_le hbB hsz)).trans hcw
          have G1 : Good w1 := HG.out.below b1 (Nat.le_refl _)
          clear hcw h1 hbel
          go_wp2_with fail
          refine (awake_hid.out _ G1).mono ?_
          rintro e w2 ⟨rfl, b2⟩
          go_wp2
          go_ret
          exact ⟨rfl, b1.trans (b2.mono b1.size)⟩
        · have M := Lib.hid (frame_small x wr (by omega) (HG.out.below hbel.out (Nat.le_refl _)))
          have HN : Hid (acc ++ Fr.frame x = Fr.flat (l.take (k + 1))) := Lib.hid (by rw [flat_one l k hlt, hacc.out, hx])
          have hnl : (acc ++ Fr.frame x).length = Fr.place (l.take (k + 1)) := by rw [HN.out, Fr.flat_len]
          have hple := place_take l (k + 1)
          have hsum := sum_two acc (Fr.frame x) (by rw [List.length_append] at hnl; omega)
          have HS2 : Hid (∀ y ∈ l.take (k + 1), y.length ≤ 65536) := Lib.hid (fun y hy => by
            rw [List.take_succ_eq_append_getElem hlt, List.mem_append] at hy
            rcases hy with hy | hy
            · exact hsm.out y hy
            · rw [List.mem_singleton.1 hy, ← hx]; omega)
          have HE := Lib.hid (ends_succ l k)
          have hel := ends_len l k
          generalize acc ++ Fr.frame x = acc2 at *
          generalize Fr.frame x = f at *
          rw [← hnl] at HE hple
          clear hc hx hxm hacc hsm hnl
          go_wp2_with fail
          refine M.out.mono ?_
          rintro e w1 ⟨rfl, h1⟩
          have HO := Lib.hid (own_below hown.out h1)
          have HB := Lib.hid (hbel.out.trans (h1.mono hsz))
          have hsz1 := HB.out.size
          clear h1 hbel hown hcw M hsz
          go_wp2_with (at_builtin; go_loud (refine wpList_append_own _ rfl _ _ 42 rfl w.heap.size 3 i0 (.int .i64 0) 1 8 ints_und HI.out.1 HI.out.2.1 HI.out.2.2.1 HI.out.2.2.2 rfl (by decide) _ _ _ rfl (World.ownsRow.alloc HO.out _) ⟨w1.heap.size, 0, none⟩ 1 1 [.int .i64 (acc2.length : Int)] rfl rfl (by intro j u hj; match j, hj with | 0, hj => simp at hj; subst hj; simp [Addr.add]) (by intro u hu; simp at hu; subst hu; rfl) (by unfold maxLen; omega) (by omega) (by rw [size1]; omega) ?_; intro v' w2 hown' hgrow _))
          have R' := push_step HO.out HB.out hsz1 hown' hgrow
          rw [← HE.out] at R'
          have R := Lib.hid R'
          clear R' hown' hgrow HO HB
          go_wp2
          go_roundw
          case rel => exact ⟨k + 1, acc2, by omega, by go_num, rfl, HN, HS2, Lib.hid R.out.1, Lib.hid R.out.2⟩
          case measure => simp [intOf]; omega
      · obtain rfl : k = l.length := by omega
        have hsm2 : ∀ x ∈ l, x.length ≤ 65536 := fun x hx => hsm.out x (by rw [List.take_length]; exact hx)
        have hacc2 : acc = Fr.flat l := by rw [hacc.out, List.take_length]
        have hal : acc.length = Fr.place l := by rw [hacc2, Fr.flat_len]
        have AA := Lib.hid (by rw [hacc2]; exact Fr.all_flat l hsm2 : Fr.all acc = l)
        have AC := Lib.hid (fun c k h1 h2 h3 => by rw [hacc2]; exact Fr.all_cut l c k hsm2 h1 h2 h3 : ∀ c k, k ≤ l.length → Fr.place (l.take k) ≤ c → (k < l.length → c < Fr.place (l.take (k + 1))) → Fr.all (acc.take c) = l.take k)
        have HAL := Lib.hid hal
        have hal2 : acc.length ≤ 100350 := by omega
        obtain ⟨x, c, t1, t2, hc, hx1, hx2⟩ := cut_is cut acc.length (by omega)
        have h0 : ((acc.length : Int) + 1) ≠ 0 := by omega
        have w1 : IntKind.i64.wrap (x + acc.length) = x + acc.length := IntWalk.i64_in _ ⟨by omega, by omega⟩
        have w2 : IntKind.i64.wrap (x + acc.length + 1) = x + acc.length + 1 := IntWalk.i64_in _ ⟨by omega, by omega⟩
        have w3 : IntKind.i64.wrap ((acc.length : Int) + 1) = acc.length + 1 := IntWalk.i64_in _ ⟨by omega, by omega⟩
        have w4 : IntKind.i64.wrap x = x := IntWalk.i64_in _ ⟨by omega, by omega⟩
        have w5 : IntKind.i64.wrap (c : Int) = c := IntWalk.i64_in _ ⟨by omega, by omega⟩
        obtain ⟨E, ecap, rfl, hre⟩ := own_at hown.out
        rw [ends_len] at hown ⊢
        have HRE := Lib.hid hre
        clear hacc hsm hsm2 hacc2 hal hown hre
        go_wp2
        rename World => wa
        go_loopw [10, 11] (fun i en wr => ∃ j e : Nat, j ≤ l.length ∧ i = .int .i64 j ∧ en = .int .i64 e ∧ Hid (e = Fr.place (l.take j)) ∧ e ≤ c ∧ Hid (wa = wr)) (fun i _ _ => l.length - (intOf i).toNat)
        case atStart => exact ⟨0, 0, Nat.zero_le _, rfl, rfl, Lib.hid rfl, Nat.zero_le _, Lib.hid rfl⟩
        case round =>
          obtain ⟨j, e, hj, rfl, rfl, hej, hec, hwa⟩ := hrel
          obtain rfl := hwa.out
          by_cases hlt2 : j < l.length
          · obtain ⟨q, hq⟩ : ∃ q, q = Fr.place (l.take (j + 1)) := ⟨_, rfl⟩
            obtain ⟨b, off, rfl, hbB, hcc⟩ := HRE.out.at_ (k := j) (by simpa [ints, ends_len] using hlt2)
            have hcw : wa.cell? ⟨b, off + j, none⟩ = some (.int .i64 (q : Int)) := by rw [hcc, hq]; simp [ints, ends]
            have HQ := Lib.hid hq
            clear hcc hbB hq
            by_cases hqc : q ≤ c
            · have hqc' : (q : Int) ≤ (c : Int) := by omega
              go_wp2
              go_roundw
              case rel => exact ⟨j + 1, q, by omega, by go_num, rfl, HQ, hqc, Lib.hid trivial⟩
              case measure => simp [intOf]; omega
            · have hqc' : decide ((q : Int) ≤ (c : Int)) = false := by simp; omega
              have hqc2 : decide (q ≤ c) = false := by simp; omega
              have hall := AC.out c j hj (by rw [← hej.out]; exact hec) (fun _ => by have := HQ.out; omega)
              obtain ⟨y, hy⟩ : ∃ y, y = acc.take c := ⟨_, rfl⟩
              have x0 : (ByteArray.mk acc.toArray).extract 0 c = ⟨y.toArray⟩ := by rw [hy]; exact cut_to acc c
              rw [← hy] at hall
              have hyl : y.length ≤ 1000000000 := by rw [hy, List.length_take]; omega
              obtain ⟨m, hm⟩ : ∃ m, m = l.take j := ⟨_, rfl⟩
              have hml : m.length = j := by rw [hm, List.length_take]; omega
              have rm : Hid (Reads w w.heap.size A (strings m)) := Lib.hid (by rw [hm]; exact reads_takes HR.out j)
              rw [← hm] at hall hej
              have M1 := Lib.hid (fun W (hW : Below w.heap.size w W) => all_any acc W (by omega) (HG.out.below hW (Nat.le_refl _)))
              rw [AA.out, ← HAL.out] at M1
              have M2 := Lib.hid (fun W (hW : Below w.heap.size w W) => all_any y W hyl (HG.out.below hW (Nat.le_refl _)))
              rw [hall, ← hej.out] at M2
              have hb := hbel.out
              clear hy hyl hm hall hej AA AC HAL hbel HRE HS HI HQ hqc
              go_wp2_with fail
              refine (M1.out _ hb).mono ?_
              rintro e' w6 ⟨v1, rfl, own1, h1⟩
              have b1 := hb.trans (h1.mono hb.size)
              clear h1 hb
              go_wp2_with fail
              refine (M2.out _ b1).mono ?_
              rintro e' w7 ⟨v2, rfl, own2, h2⟩
              have b2 := b1.trans (h2.mono b1.size)
              have own1' := owns_below own1 h2
              obtain ⟨A1, cap1, rfl, r1⟩ := owns_at own1'
              obtain ⟨A2, cap2, rfl, r2⟩ := owns_at own2
              have R2 := Lib.hid r2
              have S1 := Lib.hid (same_n A1 cap1 A cap _ _ l w7 _ _ rfl rfl (by omega) r1 (HR.out.below b2))
              clear h2 b1 own1 own1' own2 r1 r2 M1 M2
              rw [hml]
              go_wp2_with fail
              refine S1.out.mono ?_
              rintro e' w8 ⟨rfl, h3⟩
              have b3 := b2.trans (h3.mono b2.size)
              have S2 := Lib.hid (same_n A2 cap2 A cap j j m w8 _ _ hml hml (by omega) (R2.out.below h3) (rm.out.below b3))
              clear b2 h3 R2 S1
              go_wp2_with fail
              refine S2.out.mono ?_
              rintro e' w9 ⟨rfl, h4⟩
              have b4 := b3.trans (h4.mono b3.size)
              have G4 := HG.out.below b4 (Nat.le_refl _)
              clear b3 h4 S2
              go_wp2_with fail
              refine (awake_hid.out _ G4).mono ?_
              rintro e' wz ⟨rfl, bz⟩
              go_wp2
              go_ret
              exact ⟨rfl, b4.trans (bz.mono b4.size)⟩
          · have hlt2' : decide ((j : Int) < (l.length : Int)) = false := by simp; omega
            have hlt3 : decide (j < l.length) = false := by simp; omega
            have hall := AC.out c j hj (by rw [← hej.out]; exact hec) (fun h => absurd h hlt2)
            obtain ⟨y, hy⟩ : ∃ y, y = acc.take c := ⟨_, rfl⟩
            have x0 : (ByteArray.mk acc.toArray).extract 0 c = ⟨y.toArray⟩ := by rw [hy]; exact cut_to acc c
            rw [← hy] at hall
            have hyl : y.length ≤ 1000000000 := by rw [hy, List.length_take]; omega
            obtain ⟨m, hm⟩ : ∃ m, m = l.take j := ⟨_, rfl⟩
            have hml : m.length = j := by rw [hm, List.length_take]; omega
            have rm : Hid (Reads w w.heap.size A (strings m)) := Lib.hid (by rw [hm]; exact reads_takes HR.out j)
            rw [← hm] at hall hej
            have M1 := Lib.hid (fun W (hW : Below w.heap.size w W) => all_any acc W (by omega) (HG.out.below hW (Nat.le_refl _)))
            rw [AA.out, ← HAL.out] at M1
            have M2 := Lib.hid (fun W (hW : Below w.heap.size w W) => all_any y W hyl (HG.out.below hW (Nat.le_refl _)))
            rw [hall, ← hej.out] at M2
            have hb := hbel.out
            clear hy hyl hm hall hej AA AC HAL hbel HRE HS HI 
            go_wp2_with fail
            refine (M1.out _ hb).mono ?_
            rintro e' w6 ⟨v1, rfl, own1, h1⟩
            have b1 := hb.trans (h1.mono hb.size)
            clear h1 hb
            go_wp2_with fail
            refine (M2.out _ b1).mono ?_
            rintro e' w7 ⟨v2, rfl, own2, h2⟩
            have b2 := b1.trans (h2.mono b1.size)
            have own1' := owns_below own1 h2
            obtain ⟨A1, cap1, rfl, r1⟩ := owns_at own1'
            obtain ⟨A2, cap2, rfl, r2⟩ := owns_at own2
            have R2 := Lib.hid r2
            have S1 := Lib.hid (same_n A1 cap1 A cap _ _ l w7 _ _ rfl rfl (by omega) r1 (HR.out.below b2))
            clear h2 b1 own1 own1' own2 r1 r2 M1 M2
            rw [hml]
            go_wp2_with fail
            refine S1.out.mono ?_
            rintro e' w8 ⟨rfl, h3⟩
            have b3 := b2.trans (h3.mono b2.size)
            have S2 := Lib.hid (same_n A2 cap2 A cap j j m w8 _ _ hml hml (by omega) (R2.out.below h3) (rm.out.below b3))
            clear b2 h3 R2 S1
            go_wp2_with fail
            refine S2.out.mono ?_
            rintro e' w9 ⟨rfl, h4⟩
            have b4 := b3.trans (h4.mono b3.size)
            have G4 := HG.out.below b4 (Nat.le_refl _)
            clear b3 h4 S2
            go_wp2_with fail
            refine (awake_hid.out _ G4).mono ?_
            rintro e' wz ⟨rfl, bz⟩
            go_wp2
            go_ret
            exact ⟨rfl, b4.trans (bz.mono b4.size)⟩
end Go.Proofs.YtpigepkkiceihaaDoor
