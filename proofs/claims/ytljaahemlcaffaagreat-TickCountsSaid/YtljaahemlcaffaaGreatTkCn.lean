/- How often a name comes among entities and names: the law's own count. -/
import Derived.Test.YtljaahemlcaffaaGreatTkCs
import Derived.Test.YtljaahemlcaffaaGreatK42
import Derived.Test.YtljaahemlcaffaaGreatK30
import Derived.BigQuiet
namespace Go.Proofs.YtljaahemlcaffaaGreat
open Go.RowKit Pz Sp
set_option linter.unusedVariables false
set_option linter.unusedSimpArgs false

namespace Tk
def cE (l : List Bn) (k : K3) : Nat := (l.filter fun b => decide (b.id = k)).length
def cN (d : List K3) (k : K3) : Nat := (d.filter fun x => decide (x = k)).length
theorem cE_le (l : List Bn) (k : K3) : cE l k ≤ l.length := List.length_filter_le _ _
theorem cN_le (d : List K3) (k : K3) : cN d k ≤ d.length := List.length_filter_le _ _
theorem cnt_sum (l : List Bn) (d : List K3) (k : K3) : cnt l d k = cE l k + cN d k := rfl
theorem cE_yes {l : List Bn} {j : Nat} {k : K3} (h : j < l.length) (e : l[j].id = k) : cE (l.take (j + 1)) k = cE (l.take j) k + 1 := by
  have := cnt_ent_step h k
  rw [if_pos e] at this
  exact this
theorem cE_no {l : List Bn} {j : Nat} {k : K3} (h : j < l.length) (e : l[j].id ≠ k) : cE (l.take (j + 1)) k = cE (l.take j) k := by
  have := cnt_ent_step h k
  rw [if_neg e] at this
  exact this
theorem cN_yes {l : List K3} {j : Nat} {k : K3} (h : j < l.length) (e : l[j] = k) : cN (l.take (j + 1)) k = cN (l.take j) k + 1 := by
  have := cnt_name_step h k
  rw [if_pos e] at this
  exact this
theorem cN_no {l : List K3} {j : Nat} {k : K3} (h : j < l.length) (e : l[j] ≠ k) : cN (l.take (j + 1)) k = cN (l.take j) k := by
  have := cnt_name_step h k
  rw [if_neg e] at this
  exact this
end Tk
set_option maxHeartbeats 8000000 in
set_option maxRecDepth 100000 in
theorem tally_any {w : World} {A A2 : Option Addr} {c c2 : Nat} {l : List Bn} {d : List K3} (R : RdB w w.heap.size A l) (R2 : RdI3 w w.heap.size A2 d) (hl : l.length ≤ 2000) (hd : d.length ≤ 2000) (k0 k1 k2 : Int) :
    Calls Tryz.prog 22 #[.slice A l.length c, .slice A2 d.length c2, .agg #[.int .i64 k0, .int .i64 k1, .int .i64 k2]] w fun e w' => e = .returned (.int .i64 ((Tk.cnt l d (k0, k1, k2) : Nat) : Int)) ∧ Below w.heap.size w w' := by
  have H0 : Hid (Sep w [box w.heap.size (.cells #[.int .i64 k0, .int .i64 k1, .int .i64 k2] 40)] (w.alloc (.cells #[.int .i64 k0, .int .i64 k1, .int .i64 k2] 40))) := Lib.hid (sep_box (sep_new w) _)
  have RL := Lib.hid fun V (hV : Below w.heap.size w V) => R.below hV
  have RN := Lib.hid fun V (hV : Below w.heap.size w V) => R2.below hV
  have CL := Lib.hid (Tk.cE_le l (k0, k1, k2))
  rw [Tk.cnt_sum]
  clear R R2
  go_enter Tryz.func22, Tryz.ntmps22
  go_upto_region 1 with fail
  generalize w.alloc (.cells #[.int .i64 k0, .int .i64 k1, .int .i64 k2] 40) = w0 at *
  go_wp2
  go_loopw [7, 8] (fun n s wr => ∃ j m : Nat, j ≤ l.length ∧ s = .int .i64 j ∧ n = .int .i64 m ∧ Hid (m = Tk.cE (l.take j) (k0, k1, k2)) ∧ Hid (Sep w [box w.heap.size (.cells #[.int .i64 k0, .int .i64 k1, .int .i64 k2] 40)] wr)) (fun _ s _ => l.length - (intOf s).toNat)
  case atStart => exact ⟨0, 0, Nat.zero_le _, rfl, rfl, Lib.hid rfl, H0⟩
  case round =>
    clear H0
    obtain ⟨j, m, hj, rfl, rfl, HM, HP⟩ := hrel
    by_cases hju : j < l.length
    · have t3 : (j : Int) < (l.length : Int) := by omega
      have hm : m ≤ 2000 := by have h1 := Tk.cE_le (l.take j) (k0, k1, k2); have h2 := HM.out; rw [List.length_take] at h1; omega
      have wm : IntKind.i64.wrap ((m : Int) + 1) = (m : Int) + 1 := IntWalk.i64_in _ ⟨by omega, by omega⟩
      obtain ⟨g, o, rfl, tg, y0, y1, y2, y3⟩ := RL.out wr HP.out.bel j _ (List.getElem?_eq_getElem hju)
      clear y3
      obtain ⟨⟨i0, i1, i2⟩, _⟩ := Bx.b3 (HP.out.held 0 rfl)
      have NX : Hid (∀ n, Sep w [box w.heap.size (.cells #[.int .i64 k0, .int .i64 k1, .int .i64 k2] 40)] (wr.drewN n)) := Lib.hid fun n => HP.out.below (Below.dn' (Below.refl _ wr) n)
      have SY := Lib.hid fun e : l[j].id = (k0, k1, k2) => Tk.cE_yes hju e
      have SN := Lib.hid fun e : l[j].id ≠ (k0, k1, k2) => Tk.cE_no hju e
      clear HP RL RN CL
      generalize l[j] = y at *
      obtain ⟨ys, yi, yg, ym, yx, yy, yvx, yvy, yh, yp, yl⟩ := y
      simp only [Bn.id] at y0 y1 y2 SY SN
      have EQ := fun V => eq_id 9998 ys yi yg k0 k1 k2 V
      simp only [Nat.reduceAdd] at EQ
      by_cases e : (ys, yi, yg) = (k0, k1, k2)
      · have H := Lib.hid (show m + 1 = Tk.cE (l.take (j + 1)) (k0, k1, k2) by rw [SY.out e, HM.out])
        have eb : ((ys == k0) && ((yi == k1) && (yg == k2))) = true := by
          simp only [Prod.mk.injEq] at e
          simp [e.1, e.2.1, e.2.2]
        rw [eb] at EQ
        clear SY SN HM e eb
        go_wp2
        go_quiet (fail)
        go_wp2
        go_roundw
        case rel => exact ⟨j + 1, m + 1, by omega, by go_num, by go_num, H, Lib.hid (NX.out _)⟩
        case measure => simp [intOf]; omega
      · have H := Lib.hid (show m = Tk.cE (l.take (j + 1)) (k0, k1, k2) by rw [SN.out e, HM.out])
        have eb : ((ys == k0) && ((yi == k1) && (yg == k2))) = false := by
          cases h : ((ys == k0) && ((yi == k1) && (yg == k2))) with
          | false => rfl
          | true =>
            simp only [Bool.and_eq_true, beq_iff_eq] at h
            exact absurd (by rw [h.1, h.2.1, h.2.2]) e
        rw [eb] at EQ
        clear SY SN HM e eb
        go_wp2
        go_quiet (fail)
        go_wp2
        go_roundw
        case rel => exact ⟨j + 1, m, by omega, by go_num, rfl, H, Lib.hid (NX.out _)⟩
        case measure => simp [intOf]; omega
    · obtain rfl : j = l.length := by omega
      have t3 : ¬ (l.length : Int) < (l.length : Int) := by omega
      rw [List.take_length] at HM
      have hm0 := HM.out
      have cl := CL.out
      have ha : m ≤ 2000 := by omega
      have HA := HM
      clear hm0 cl HM RL CL
      generalize m = a at *
      go_wp2
      go_loopw [7, 9] (fun n s wr => ∃ j m : Nat, j ≤ d.length ∧ s = .int .i64 j ∧ n = .int .i64 m ∧ Hid (m = a + Tk.cN (d.take j) (k0, k1, k2)) ∧ Hid (Sep w [box w.heap.size (.cells #[.int .i64 k0, .int .i64 k1, .int .i64 k2] 40)] wr)) (fun _ s _ => d.length - (intOf s).toNat)
      case atStart => exact ⟨0, a, Nat.zero_le _, rfl, rfl, Lib.hid rfl, HP⟩
      case round =>
        clear HP
        obtain ⟨j, m, hj, rfl, rfl, HM, HP⟩ := hrel
        by_cases hju : j < d.length
        · have t4 : (j : Int) < (d.length : Int) := by omega
          have hm : m ≤ 4000 := by have h1 := Tk.cN_le (d.take j) (k0, k1, k2); have h2 := HM.out; rw [List.length_take] at h1; omega
          have wm : IntKind.i64.wrap ((m : Int) + 1) = (m : Int) + 1 := IntWalk.i64_in _ ⟨by omega, by omega⟩
          obtain ⟨g, o, rfl, tg, y0, y1, y2⟩ := RN.out wr HP.out.bel j _ (List.getElem?_eq_getElem hju)
          obtain ⟨⟨i0, i1, i2⟩, _⟩ := Bx.b3 (HP.out.held 0 rfl)
          have NX : Hid (∀ n, Sep w [box w.heap.size (.cells #[.int .i64 k0, .int .i64 k1, .int .i64 k2] 40)] (wr.drewN n)) := Lib.hid fun n => HP.out.below (Below.dn' (Below.refl _ wr) n)
          have SY := Lib.hid fun e : d[j] = (k0, k1, k2) => Tk.cN_yes hju e
          have SN := Lib.hid fun e : d[j] ≠ (k0, k1, k2) => Tk.cN_no hju e
          clear HP RN
          generalize d[j] = y at *
          obtain ⟨ys, yi, yg⟩ := y
          dsimp only at y0 y1 y2
          have EQ := fun V => eq_id 9998 ys yi yg k0 k1 k2 V
          simp only [Nat.reduceAdd] at EQ
          by_cases e : (ys, yi, yg) = (k0, k1, k2)
          · have H := Lib.hid (show m + 1 = a + Tk.cN (d.take (j + 1)) (k0, k1, k2) by rw [SY.out e, HM.out]; omega)
            have eb : ((ys == k0) && ((yi == k1) && (yg == k2))) = true := by
              simp only [Prod.mk.injEq] at e
              simp [e.1, e.2.1, e.2.2]
            rw [eb] at EQ
            clear SY SN HM e eb
            go_wp2
            go_quiet (fail)
            go_wp2
            go_roundw
            case rel => exact ⟨j + 1, m + 1, by omega, by go_num, by go_num, H, Lib.hid (NX.out _)⟩
            case measure => simp [intOf]; omega
          · have H := Lib.hid (show m = a + Tk.cN (d.take (j + 1)) (k0, k1, k2) by rw [SN.out e, HM.out])
            have eb : ((ys == k0) && ((yi == k1) && (yg == k2))) = false := by
              cases h : ((ys == k0) && ((yi == k1) && (yg == k2))) with
              | false => rfl
              | true =>
                simp only [Bool.and_eq_true, beq_iff_eq] at h
                exact absurd (by rw [h.1, h.2.1, h.2.2]) e
            rw [eb] at EQ
            clear SY SN HM e eb
            go_wp2
            go_quiet (fail)
            go_wp2
            go_roundw
            case rel => exact ⟨j + 1, m, by omega, by go_num, rfl, H, Lib.hid (NX.out _)⟩
            case measure => simp [intOf]; omega
        · obtain rfl : j = d.length := by omega
          have t4 : ¬ (d.length : Int) < (d.length : Int) := by omega
          rw [List.take_length] at HM
          have HE := Lib.hid (show m = Tk.cE l (k0, k1, k2) + Tk.cN d (k0, k1, k2) by rw [HM.out, HA.out])
          clear HM HA RN
          have HF := Lib.hid HP.out.bel
          clear HP
          go_wp2
          go_ret
          exact ⟨by have hm := HE.out; subst hm; rfl, HF.out⟩
end Go.Proofs.YtljaahemlcaffaaGreat
