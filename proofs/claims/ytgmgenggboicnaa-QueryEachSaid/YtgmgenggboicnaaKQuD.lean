/- QuOf, QuWit, QuNr, in one text. -/
import Derived.Test.YtgmgenggboicnaaKQuC
import Derived.Test.YtgmgenggboicnaaKSoA
import Derived.Deep.DeepCutAuto
import Derived.BigQuiet
namespace Go.Proofs.Ytgmgenggboicnaa
open Go.RowKit Go.Shelf Pz Ar Qu
set_option linter.unusedVariables false
set_option linter.unusedSimpArgs false

theorem wants_yes (q0 q1 : Int) (l : List Bn) : wants q0 q1 yes l = fil q0 q1 l := by
  unfold wants fil
  simp
theorem wants_fil (q0 q1 : Int) (P : Bn → Bool) (l : List Bn) : (fil q0 q1 l).filter P = wants q0 q1 P l := by
  unfold wants fil
  rw [List.filter_filter]
  congr 1
  funext b
  exact Bool.and_comm _ _
/-- those of the sorted ones of which something holds -/
theorem told_filter (q0 q1 : Int) (P : Bn → Bool) (l : List Bn) : (told q0 q1 yes l).filter P = told q0 q1 P l := by
  unfold told
  rw [wants_yes, sort_fil, wants_fil]
theorem told_same (q0 q1 : Int) (P : Bn → Bool) {l m : List Bn} (hl : (l.map Bn.id).Nodup) (hm : (m.map Bn.id).Nodup) (h : ∀ x, x ∈ l ↔ x ∈ m) : told q0 q1 P l = told q0 q1 P m := by
  unfold told
  refine sort_same (nodup_fil hl _) (nodup_fil hm _) fun x => ?_
  unfold wants
  rw [List.mem_filter, List.mem_filter, h]
theorem nears_same (q0 q1 X Y D : Int) {l m : List Bn} (hl : (l.map Bn.id).Nodup) (hm : (m.map Bn.id).Nodup) (h : ∀ x, x ∈ l ↔ x ∈ m) : nears q0 q1 X Y D l = nears q0 q1 X Y D m := by
  unfold nears
  rw [told_same q0 q1 _ hl hm h]
theorem fil_same (q0 q1 : Int) {l m : List Bn} (hl : (l.map Bn.id).Nodup) (hm : (m.map Bn.id).Nodup) (h : ∀ x, x ∈ l ↔ x ∈ m) : (fil q0 q1 l).length = (fil q0 q1 m).length := by
  have := congrArg List.length (told_same q0 q1 yes hl hm h)
  rwa [told_len, told_len, wants_yes, wants_yes] at this
theorem fil_take {q0 q1 : Int} {l : List Bn} {k : Nat} {x : Bn} (hx : l[k]? = some x) : fil q0 q1 (l.take (k + 1)) = if asks q0 q1 x.m then fil q0 q1 (l.take k) ++ [x] else fil q0 q1 (l.take k) := by
  have e : l.take (k + 1) = l.take k ++ [x] := by rw [List.take_add_one, hx]; rfl
  rw [e]
  simp only [fil, List.filter_append, List.filter_cons, List.filter_nil]
  split <;> simp
theorem filt_take {P : Bn → Bool} {l : List Bn} {k : Nat} {x : Bn} (hx : l[k]? = some x) : (l.take (k + 1)).filter P = if P x then (l.take k).filter P ++ [x] else (l.take k).filter P := by
  have e : l.take (k + 1) = l.take k ++ [x] := by rw [List.take_add_one, hx]; rfl
  rw [e]
  simp only [List.filter_append, List.filter_cons, List.filter_nil]
  split <;> simp
/-- a row of one's own that gets an element more, a box ahead of it stays -/
theorem push_past {w V : World} {A : Option Addr} {c : Nat} {l : List Bn} {B : Nat} (hb : Below w.heap.size w V) (hB : w.heap.size ≤ B) (hBV : B ≤ V.heap.size) (ho : OwnB V B (.slice A l.length c) l) (hl : l.length ≤ 10000) (x : Bn) :
    ∃ A' c' V', (Builtin.append_ #[42, 42] 42 #[.slice A l.length c, .slice (some ⟨V.heap.size, 0, none⟩) 1 1]).run Try.prog (V.alloc (bobj x)) = .ok (.slice A' (l ++ [x]).length c') V' ∧ Below w.heap.size w V' ∧ Below B V V' ∧ OwnB V' B (.slice A' (l ++ [x]).length c') (l ++ [x]) := by
  obtain ⟨v', V', hr, ho', hb'⟩ := push_bn V ho hBV hl x 42
  obtain ⟨A', c', rfl⟩ := ho'.form
  exact ⟨A', c', V', hr, hb.trans (hb'.mono hB), hb', ho'⟩
set_option maxHeartbeats 8000000 in
set_option maxRecDepth 100000 in
theorem rnames_any {w : World} {A : Option Addr} {c : Nat} {l : List Bn} (h : RdB w w.heap.size A l) (hl : l.length ≤ 100000) : Calls Try.prog 35 #[.slice A l.length c] w fun e w' => ∃ A' c', e = .returned (.slice A' (l.map Bn.id).length c') ∧ OwnI w' w.heap.size (.slice A' (l.map Bn.id).length c') (l.map Bn.id) ∧ Below w.heap.size w w' := by
  have HR := Lib.hid h
  clear h
  have hl1 : (l.length : Int) ≤ 100000 := by omega
  go_enter Try.func35, Try.ntmps35
  go_wp2
  go_loopw [3, 4] (fun u ix wr => ∃ j : Nat, j ≤ l.length ∧ ix = .int .i64 j ∧ Hid (OwnI wr w.heap.size u ((l.map Bn.id).take j)) ∧ Hid (Below w.heap.size w wr)) (fun u ix _ => l.length - (intOf ix).toNat)
  case atStart => exact ⟨0, Nat.zero_le _, rfl, Lib.hid (.inl ⟨rfl, by simp⟩), Lib.hid (Below.refl _ _)⟩
  case round =>
    rename_i u0 ix0
    obtain ⟨j, hj, rfl, HO, HB⟩ := hrel
    by_cases hjl : j < l.length
    · have t1 : (j : Int) < (l.length : Int) := by omega
      have hjj := List.getElem?_eq_getElem hjl
      obtain ⟨g, o, rfl, hg, ⟨y0, y1, y2, y3, y4, y5, y6, y7, y8, y9, y10⟩⟩ := (HR.out.below HB.out) j _ hjj
      have hT : (l.map Bn.id).take (j + 1) = (l.map Bn.id).take j ++ [l[j].id] := by
        rw [List.take_add_one, List.getElem?_map, hjj]
        rfl
      generalize l[j] = x at *
      obtain ⟨xs, xi, xg, xm, xx, xy, xvx, xvy, xh, xp, xl⟩ := x
      simp only [Bn.id] at *
      obtain ⟨v', w', hr, ho, hgr, _, hf⟩ := app_x (enc := idE) (T := 31) (s := 3) (t := 27) Try.underlying27 id_info rfl (by decide) idE_len idE_one HO.out HB.out.size (xs, xi, xg) (by rw [List.length_take, List.length_map]; omega) (by decide) 27
      have HN := Lib.hid (below_row HB.out hgr HB.out.size hf)
      rw [← hT] at ho
      have HV := Lib.hid ho
      have HRun := Lib.hid hr
      clear hT ho hr hgr hf HO HB hjj
      simp only [idE] at *
      go_wp2_with (at_builtin; refine wpList_append _ rfl (.tmp 11) (.tmp 17) _ _ rfl _ _ rfl rfl _ _ HRun.out ?_)
      go_roundw
      case rel => exact ⟨j + 1, by omega, by go_num, HV, HN⟩
      case measure => simp [intOf]; omega
    · obtain rfl : j = l.length := by omega
      have t2 : ¬ (l.length : Int) < (l.length : Int) := by omega
      have HO2 := HO.out
      rw [List.take_of_length_le (by simp)] at HO2
      obtain ⟨A', c', rfl⟩ := HO2.form
      clear HO HR
      go_wp2
      go_ret
      exact ⟨A', c', by simp, by simpa using HO2, HB.out⟩
set_option maxHeartbeats 16000000 in
set_option maxRecDepth 100000 in
theorem rof_any {w : World} {A : Option Addr} {c : Nat} {l : List Bn} (h : RdB w w.heap.size A l) (hl : l.length ≤ 1000) (hm : ∀ x ∈ l, may x = true) {q0 : Int} (h0 : Fit q0) (q1 : Int) :
    Calls Try.prog 32 #[.slice A l.length c, qV q0 q1] w fun e w' => ∃ A' c', e = .returned (.slice A' (told q0 q1 yes l).length c') ∧ OwnB w' w.heap.size (.slice A' (told q0 q1 yes l).length c') (told q0 q1 yes l) ∧ Below w.heap.size w w' := by
  have hT : told q0 q1 yes l = sortL Bn.id (fil q0 q1 l) := by unfold told; rw [wants_yes]
  rw [hT, sort_len]
  clear hT
  have HR := Lib.hid h
  have HM := Lib.hid hm
  have MT := Lib.hid fun m hm W => rmatch_any (m := m) h0 hm q1 W
  have BE := bel1 w (.cells #[.int .i64 q0, .int .i64 q1] QTY)
  have T0 := at1 w (.cells #[.int .i64 q0, .int .i64 q1] QTY)
  have s1 := size1 w (.cells #[.int .i64 q0, .int .i64 q1] QTY)
  clear h hm
  have hl1 : (l.length : Int) ≤ 1000 := by omega
  have FL : Hid (∀ k, (fil q0 q1 (l.take k)).length ≤ 1000) := Lib.hid fun k => Nat.le_trans (List.length_filter_le _ _) (by rw [List.length_take]; omega)
  have FA : Hid (fil q0 q1 (l.take l.length) = fil q0 q1 l) := Lib.hid (by rw [List.take_length])
  go_enter Try.func32, Try.ntmps32
  go_upto_region 3 with fail
  generalize w.alloc (.cells #[.int .i64 q0, .int .i64 q1] QTY) = w1 at *
  have H0 : Hid (Below w.heap.size w w1 ∧ w1.heap[w.heap.size]? = some (.cells #[.int .i64 q0, .int .i64 q1] QTY (0, 0)) ∧ OwnB w1 (w.heap.size + 1) (.slice none 0 0) (fil q0 q1 (l.take 0))) := Lib.hid ⟨BE, T0, .inl ⟨rfl, rfl⟩⟩
  clear BE T0 s1
  go_loopw [5, 6] (fun v i wr => ∃ (k : Nat) (A2 : Option Addr) (c2 : Nat), k ≤ l.length ∧ i = .int .i64 k ∧ v = .slice A2 (fil q0 q1 (l.take k)).length c2 ∧ Hid (Below w.heap.size w wr ∧ wr.heap[w.heap.size]? = some (.cells #[.int .i64 q0, .int .i64 q1] QTY (0, 0)) ∧ OwnB wr (w.heap.size + 1) (.slice A2 (fil q0 q1 (l.take k)).length c2) (fil q0 q1 (l.take k)))) (fun v i _ => l.length - (intOf i).toNat)
  case atStart => exact ⟨0, none, 0, Nat.zero_le _, rfl, rfl, H0⟩
  case round =>
    obtain ⟨k, A2, c2, hk, rfl, rfl, HI⟩ := hrel
    clear H0
    by_cases hkl : k < l.length
    · have t1 : (k : Int) < (l.length : Int) := by omega
      obtain ⟨x, hx⟩ : ∃ x, l[k]? = some x := ⟨_, List.getElem?_eq_getElem hkl⟩
      obtain ⟨g, o, rfl, hg, _⟩ := (HR.out.below HI.out.1) k _ hx
      have hxm := may_mask (HM.out x (List.mem_of_getElem? hx))
      have FC : Hid (∀ V, Below wr.heap.size wr V → V.cell? ⟨g, o + k * 11, none⟩ = some (.int .i64 x.s) ∧ V.cell? ⟨g, o + k * 11 + 1, none⟩ = some (.int .i64 x.i) ∧ V.cell? ⟨g, o + k * 11 + 2, none⟩ = some (.int .i64 x.g) ∧ V.cell? ⟨g, o + k * 11 + 3, none⟩ = some (.int .i64 x.m) ∧ V.cell? ⟨g, o + k * 11 + 4, none⟩ = some (.int .i64 x.x) ∧ V.cell? ⟨g, o + k * 11 + 5, none⟩ = some (.int .i64 x.y) ∧ V.cell? ⟨g, o + k * 11 + 6, none⟩ = some (.int .i64 x.vx) ∧ V.cell? ⟨g, o + k * 11 + 7, none⟩ = some (.int .i64 x.vy) ∧ V.cell? ⟨g, o + k * 11 + 8, none⟩ = some (.int .i64 x.h) ∧ V.cell? ⟨g, o + k * 11 + 9, none⟩ = some (.int .i64 x.p) ∧ V.cell? ⟨g, o + k * 11 + 10, none⟩ = some (.int .i64 x.l)) := Lib.hid fun V hV => by
        obtain ⟨g', o', e, _, hc⟩ := (HR.out.below (HI.out.1.trans (hV.mono HI.out.1.size))) k _ hx
        cases e
        exact hc
      have FQ : Hid (∀ V, Below wr.heap.size wr V → V.cell? ⟨w.heap.size, 0, none⟩ = some (.int .i64 q0) ∧ V.cell? ⟨w.heap.size, 1, none⟩ = some (.int .i64 q1)) := Lib.hid fun V hV => (Bx.b2 ((hV.block _ (Bx.lt HI.out.2.1)).trans HI.out.2.1)).1
      have KP : Hid (∀ V, Below wr.heap.size wr V → Below w.heap.size w V ∧ V.heap[w.heap.size]? = some (.cells #[.int .i64 q0, .int .i64 q1] QTY (0, 0)) ∧ OwnB V (w.heap.size + 1) (.slice A2 (fil q0 q1 (l.take k)).length c2) (fil q0 q1 (l.take k))) := Lib.hid fun V hV => ⟨HI.out.1.trans (hV.mono HI.out.1.size), (hV.block _ (Bx.lt HI.out.2.1)).trans HI.out.2.1, HI.out.2.2.below hV⟩
      have MX := Lib.hid (MT.out x.m (by unfold Fit; omega))
      have SK := fil_take (q0 := q0) (q1 := q1) hx
      obtain ⟨ta, hta⟩ : ∃ ta, asks q0 q1 x.m = ta := ⟨_, rfl⟩
      rw [hta] at MX SK
      have hfl := FL.out k
      clear hta MT HI FL FA HM HR hx hxm hg
      have MP : Hid (∀ p : Lat grows wr, Calls Try.prog 26 #[qV q0 q1, .int .i64 x.m] p.W fun e w' => e = .returned (.bool ta) ∧ Below p.W.heap.size p.W w') := Lib.hid fun p => MX.out p.W
      have d0 := fun p : Lat grows wr => (FQ.out p.W p.h).1
      have d1 := fun p : Lat grows wr => (FQ.out p.W p.h).2
      have c3 := fun p : Lat grows wr => (FC.out p.W p.h).2.2.2.1
      have AP : Hid (∀ V, Below wr.heap.size wr V → ∃ A' c' V', (Builtin.append_ #[42, 42] 42 #[.slice A2 (fil q0 q1 (l.take k)).length c2, .slice (some ⟨V.heap.size, 0, none⟩) 1 1]).run Try.prog (V.alloc (bobj x)) = .ok (.slice A' (fil q0 q1 (l.take k) ++ [x]).length c') V' ∧ Hid (Below w.heap.size w V' ∧ V'.heap[w.heap.size]? = some (.cells #[.int .i64 q0, .int .i64 q1] QTY (0, 0)) ∧ OwnB V' (w.heap.size + 1) (.slice A' (fil q0 q1 (l.take k) ++ [x]).length c') (fil q0 q1 (l.take k) ++ [x]))) := Lib.hid fun V hV => by
        obtain ⟨e1, e2, e3⟩ := KP.out V hV
        obtain ⟨A', c', V', hr, f1, f2, f3⟩ := push_past e1 (Nat.le_succ _) (Bx.lt e2) e3 (by omega) x
        exact ⟨A', c', V', hr, Lib.hid ⟨f1, (f2.block _ (Nat.lt_succ_self _)).trans e2, f3⟩⟩
      clear FQ
      clear MX
      generalize hn2 : (fil q0 q1 (l.take k)).length = n2 at *
      go_upto_region 5 with fail
      refine Og.grow 7 (by kernel_rfl) (by kernel_rfl) fun hc hf => ?_
      clear hc hf
      simp only [List.take_succ_cons, List.take_zero, List.drop_succ_cons, List.drop_zero]
      iterate 6 (refine Og.det [] rfl (fun J hJ => ?_); go_simp; refine hJ _ _ ?_; clear hJ J)
      refine Og.det [] rfl (fun J hJ => ?_)
      go_simp
      with_reducible refine ⟨_, fun p => Og.lays (MP.out p), hJ _ _ ?_⟩
      clear hJ J
      refine Og.fin fun W hW => ?_
      simp only [Og.opened_nil]
      clear MP d0 d1 c3
      cases ta with
      | false =>
        rw [if_neg (by decide)] at SK
        have NX := KP.out W hW
        rw [← SK] at NX
        replace NX := Lib.hid NX
        clear AP KP hW
        go_wp2
        go_roundw
        case rel => exact ⟨k + 1, A2, c2, by omega, by go_num, by rw [SK, hn2], by rw [show (fil q0 q1 (l.take (k + 1))).length = n2 by rw [SK, hn2]]; exact NX⟩
        case measure => simp [intOf]; omega
      | true =>
        rw [if_pos rfl] at SK
        obtain ⟨A', c', V', hr, FIN⟩ := AP.out W hW
        rw [← SK] at hr FIN
        have HRun := Lib.hid hr
        obtain ⟨k0, k1, k2, k3, k4, k5, k6, k7, k8, k9, k10⟩ := FC.out W hW
        clear AP KP hW hr FC
        obtain ⟨xs, xi, xg, xm, xx, xY, xvx, xvy, xh, xp, xl⟩ := x
        simp only [bobj] at *
        go_wp2_with (at_builtin; refine wpList_append _ rfl (.tmp 20) (.tmp 25) _ _ rfl _ _ rfl rfl _ _ HRun.out ?_)
        go_roundw
        case rel => exact ⟨k + 1, A', c', by omega, by go_num, by rw [SK, List.length_append, hn2]; rfl, FIN⟩
        case measure => simp [intOf]; omega
    · obtain rfl : k = l.length := by omega
      have t1 : ¬ (l.length : Int) < (l.length : Int) := by omega
      have SO := Lib.hid (rsorted_any (cap := c2) (RdB.of_own HI.out.2.2) (FL.out _))
      rw [FA.out] at SO ⊢
      have HB := Lib.hid HI.out.1
      clear HI MT FL HM HR FA
      go_wp2_with (go_at_call 58; refine SO.out.mono ?_; rintro e w5 ⟨⟨A', c', rfl, ho⟩, hb⟩; clear SO)
      go_ret
      exact ⟨A', c', rfl, ho.base HB.out.size, HB.out.trans (hb.mono HB.out.size)⟩
end Go.Proofs.Ytgmgenggboicnaa
namespace Go.Proofs.Ytgmgenggboicnaa
open Go.RowKit Go.Shelf Pz Ar Qu
set_option linter.unusedVariables false
set_option linter.unusedSimpArgs false

theorem told_mem {q0 q1 : Int} {P : Bn → Bool} {l : List Bn} {x : Bn} (h : x ∈ told q0 q1 P l) : x ∈ l := by
  have := (sortL_srt (κ := Bn.id) (wants q0 q1 P l)).2.mem h
  exact (List.mem_filter.1 this).1
set_option maxHeartbeats 16000000 in
set_option maxRecDepth 100000 in
theorem rwithin_any {w : World} {A : Option Addr} {c : Nat} {l : List Bn} (h : RdB w w.heap.size A l) (hl : l.length ≤ 1000) (hm : ∀ x ∈ l, may x = true) {q0 : Int} (h0 : Fit q0) (q1 : Int) {ra rb rc rd : Int} (ha : I ra) (hb : I rb) (hc : I rc) (hd : I rd) :
    Calls Try.prog 40 #[.slice A l.length c, qV q0 q1, .agg #[.int .i64 ra, .int .i64 rb, .int .i64 rc, .int .i64 rd]] w fun e w' => ∃ A' c', e = .returned (.slice A' (told q0 q1 (fun x => Rc.hasR ra rb rc rd x.x x.y) l).length c') ∧ OwnB w' w.heap.size (.slice A' (told q0 q1 (fun x => Rc.hasR ra rb rc rd x.x x.y) l).length c') (told q0 q1 (fun x => Rc.hasR ra rb rc rd x.x x.y) l) ∧ Below w.heap.size w w' := by
  rw [← told_filter]
  obtain ⟨P, hP⟩ : ∃ P : Bn → Bool, P = fun x : Bn => Rc.hasR ra rb rc rd x.x x.y := ⟨_, rfl⟩
  have HC := Lib.hid fun (x : Bn) (hx : may x = true) V => rhas_any ra rb rc rd x.x x.y V ha hb hc hd (may_I hx).1 (may_I hx).2
  have HP : Hid (∀ x : Bn, Rc.hasR ra rb rc rd x.x x.y = P x) := Lib.hid fun x => by rw [hP]
  rw [← hP]
  have BE := bel2 w (.cells #[.int .i64 q0, .int .i64 q1] QTY) (.cells #[.int .i64 ra, .int .i64 rb, .int .i64 rc, .int .i64 rd] RTY)
  obtain ⟨⟨k0, k1⟩, _⟩ := Bx.b2 (at2a w (.cells #[.int .i64 q0, .int .i64 q1] QTY) (.cells #[.int .i64 ra, .int .i64 rb, .int .i64 rc, .int .i64 rd] RTY))
  have T1 := at2b w (.cells #[.int .i64 q0, .int .i64 q1] QTY) (.cells #[.int .i64 ra, .int .i64 rb, .int .i64 rc, .int .i64 rd] RTY)
  have OF := Lib.hid (rof_any (c := c) ((h.below BE).more BE.size) hl hm h0 q1)
  have hgl : (told q0 q1 yes l).length ≤ 1000 := Nat.le_trans (told_le _ _ _ _) hl
  have HM : Hid (∀ x ∈ told q0 q1 yes l, may x = true) := Lib.hid fun x hx => hm x (told_mem hx)
  clear hP h hm ha hb hc hd
  obtain ⟨G, hG⟩ : ∃ G, G = told q0 q1 yes l := ⟨_, rfl⟩
  rw [← hG] at OF hgl HM ⊢
  clear hG
  have FL : Hid (∀ k, ((G.take k).filter P).length ≤ 1000) := Lib.hid fun k => Nat.le_trans (List.length_filter_le _ _) (by rw [List.length_take]; omega)
  have FA : Hid ((G.take G.length).filter P = G.filter P) := Lib.hid (by rw [List.take_length])
  have hl1 : (G.length : Int) ≤ 1000 := by omega
  go_enter Try.func40, Try.ntmps40
  go_upto_region 2 with fail
  generalize (w.alloc (.cells #[.int .i64 q0, .int .i64 q1] QTY)).alloc (.cells #[.int .i64 ra, .int .i64 rb, .int .i64 rc, .int .i64 rd] RTY) = w1 at *
  go_upto_region 4 with (go_at_call 32; refine OF.out.mono ?_; rintro e w6 ⟨A6, c6, rfl, o6, b6⟩; have T6 := (b6.block _ (Bx.lt T1)).trans T1; have B6 := BE.trans (b6.mono BE.size); clear OF k0 k1 T1 b6)
  have HR := Lib.hid (RdB.of_own o6)
  have HT := Lib.hid T6
  have HB6 := Lib.hid B6
  have H0 : Hid (Below w6.heap.size w6 w6 ∧ OwnB w6 w6.heap.size (.slice none 0 0) ((G.take 0).filter P)) := Lib.hid ⟨Below.refl _ _, .inl ⟨rfl, rfl⟩⟩
  clear BE T6 B6 o6
  go_loopw [7, 9] (fun v i wr => ∃ (k : Nat) (A2 : Option Addr) (c2 : Nat), k ≤ G.length ∧ i = .int .i64 k ∧ v = .slice A2 ((G.take k).filter P).length c2 ∧ Hid (Below w6.heap.size w6 wr ∧ OwnB wr w6.heap.size (.slice A2 ((G.take k).filter P).length c2) ((G.take k).filter P))) (fun v i _ => G.length - (intOf i).toNat)
  case atStart => exact ⟨0, none, 0, Nat.zero_le _, rfl, rfl, H0⟩
  case round =>
    obtain ⟨k, A2, c2, hk, rfl, rfl, HI⟩ := hrel
    clear H0
    by_cases hkl : k < G.length
    · have t1 : (k : Int) < (G.length : Int) := by omega
      obtain ⟨x, hx⟩ : ∃ x, G[k]? = some x := ⟨_, List.getElem?_eq_getElem hkl⟩
      obtain ⟨g, o, rfl, hg, _⟩ := (HR.out.below HI.out.1) k _ hx
      have hxm := HM.out x (List.mem_of_getElem? hx)
      have FC : Hid (∀ V, Below wr.heap.size wr V → V.cell? ⟨g, o + k * 11, none⟩ = some (.int .i64 x.s) ∧ V.cell? ⟨g, o + k * 11 + 1, none⟩ = some (.int .i64 x.i) ∧ V.cell? ⟨g, o + k * 11 + 2, none⟩ = some (.int .i64 x.g) ∧ V.cell? ⟨g, o + k * 11 + 3, none⟩ = some (.int .i64 x.m) ∧ V.cell? ⟨g, o + k * 11 + 4, none⟩ = some (.int .i64 x.x) ∧ V.cell? ⟨g, o + k * 11 + 5, none⟩ = some (.int .i64 x.y) ∧ V.cell? ⟨g, o + k * 11 + 6, none⟩ = some (.int .i64 x.vx) ∧ V.cell? ⟨g, o + k * 11 + 7, none⟩ = some (.int .i64 x.vy) ∧ V.cell? ⟨g, o + k * 11 + 8, none⟩ = some (.int .i64 x.h) ∧ V.cell? ⟨g, o + k * 11 + 9, none⟩ = some (.int .i64 x.p) ∧ V.cell? ⟨g, o + k * 11 + 10, none⟩ = some (.int .i64 x.l)) := Lib.hid fun V hV => by
        obtain ⟨g', o', e, _, hc⟩ := (HR.out.below (HI.out.1.trans (hV.mono HI.out.1.size))) k _ hx
        cases e
        exact hc
      have FQ : Hid (∀ V, Below wr.heap.size wr V → (V.cell? ⟨w.heap.size + 1, 0, none⟩ = some (.int .i64 ra) ∧ V.cell? ⟨w.heap.size + 1, 1, none⟩ = some (.int .i64 rb) ∧ V.cell? ⟨w.heap.size + 1, 2, none⟩ = some (.int .i64 rc) ∧ V.cell? ⟨w.heap.size + 1, 3, none⟩ = some (.int .i64 rd))) := Lib.hid fun V hV => (box4 (((HI.out.1.trans (hV.mono HI.out.1.size)).block _ (Bx.lt HT.out)).trans HT.out)).1
      have KP : Hid (∀ V, Below wr.heap.size wr V → Below w6.heap.size w6 V ∧ OwnB V w6.heap.size (.slice A2 ((G.take k).filter P).length c2) ((G.take k).filter P)) := Lib.hid fun V hV => ⟨HI.out.1.trans (hV.mono HI.out.1.size), HI.out.2.below hV⟩
      have MX := Lib.hid (HC.out x hxm)
      rw [HP.out x] at MX
      have SK := filt_take (P := P) hx
      obtain ⟨ta, hta⟩ : ∃ ta, P x = ta := ⟨_, rfl⟩
      rw [hta] at MX SK
      have hfl := FL.out k
      clear hta HC HI FL FA HM HR hx hxm hg HP HT
      have MP : Hid (∀ p : Lat grows wr, Calls Try.prog 64 #[.agg #[.int .i64 ra, .int .i64 rb, .int .i64 rc, .int .i64 rd], .int .i64 x.x, .int .i64 x.y] p.W fun e w' => e = .returned (.bool ta) ∧ Below p.W.heap.size p.W w') := Lib.hid fun p => MX.out p.W
      have d0 := fun p : Lat grows wr => (FQ.out p.W p.h).1
      have d1 := fun p : Lat grows wr => (FQ.out p.W p.h).2.1
      have d2 := fun p : Lat grows wr => (FQ.out p.W p.h).2.2.1
      have d3 := fun p : Lat grows wr => (FQ.out p.W p.h).2.2.2
      have e4 := fun p : Lat grows wr => (FC.out p.W p.h).2.2.2.2.1
      have e5 := fun p : Lat grows wr => (FC.out p.W p.h).2.2.2.2.2.1
      have AP : Hid (∀ V, Below wr.heap.size wr V → ∃ A' c' V', (Builtin.append_ #[42, 42] 42 #[.slice A2 ((G.take k).filter P).length c2, .slice (some ⟨V.heap.size, 0, none⟩) 1 1]).run Try.prog (V.alloc (bobj x)) = .ok (.slice A' ((G.take k).filter P ++ [x]).length c') V' ∧ Hid (Below w6.heap.size w6 V' ∧ OwnB V' w6.heap.size (.slice A' ((G.take k).filter P ++ [x]).length c') ((G.take k).filter P ++ [x]))) := Lib.hid fun V hV => by
        obtain ⟨e1, e3⟩ := KP.out V hV
        obtain ⟨A', c', V', hr, f1, f2, f3⟩ := push_past e1 (Nat.le_refl _) e1.size e3 (by omega) x
        exact ⟨A', c', V', hr, Lib.hid ⟨f1, f3⟩⟩
      clear FQ MX
      generalize hn2 : ((G.take k).filter P).length = n2 at *
      go_upto_region 6 with fail
      refine Og.grow 12 (by kernel_rfl) (by kernel_rfl) fun hc hf => ?_
      clear hc hf
      simp only [List.take_succ_cons, List.take_zero, List.drop_succ_cons, List.drop_zero]
      iterate 11 (refine Og.det [] rfl (fun J hJ => ?_); go_simp; refine hJ _ _ ?_; clear hJ J)
      refine Og.det [] rfl (fun J hJ => ?_)
      go_simp
      with_reducible refine ⟨_, fun p => Og.lays (MP.out p), hJ _ _ ?_⟩
      clear hJ J
      refine Og.fin fun W hW => ?_
      simp only [Og.opened_nil]
      clear MP d0 d1 d2 d3 e4 e5
      cases ta with
      | false =>
        rw [if_neg (by decide)] at SK
        have NX := KP.out W hW
        rw [← SK] at NX
        replace NX := Lib.hid NX
        clear AP KP hW
        go_wp2
        go_roundw
        case rel => exact ⟨k + 1, A2, c2, by omega, by go_num, by rw [SK, hn2], by rw [show ((G.take (k + 1)).filter P).length = n2 by rw [SK, hn2]]; exact NX⟩
        case measure => simp [intOf]; omega
      | true =>
        rw [if_pos rfl] at SK
        obtain ⟨A', c', V', hr, FIN⟩ := AP.out W hW
        rw [← SK] at hr FIN
        have HRun := Lib.hid hr
        obtain ⟨k0, k1, k2, k3, k4, k5, k6, k7, k8, k9, k10⟩ := FC.out W hW
        clear AP KP hW hr FC
        obtain ⟨xs, xi, xg, xm, xx, xY, xvx, xvy, xh, xp, xl⟩ := x
        simp only [bobj] at *
        go_wp2_with (at_builtin; refine wpList_append _ rfl (.tmp 31) (.tmp 36) _ _ rfl _ _ rfl rfl _ _ HRun.out ?_)
        go_roundw
        case rel => exact ⟨k + 1, A', c', by omega, by go_num, by rw [SK, List.length_append, hn2]; rfl, FIN⟩
        case measure => simp [intOf]; omega
    · obtain rfl : k = G.length := by omega
      have t1 : ¬ (G.length : Int) < (G.length : Int) := by omega
      have HF := HI.out
      rw [FA.out] at HF
      have e9 := FA.out
      clear HI FL HM HR FA HC HP HT
      go_wp2
      go_ret
      exact ⟨A2, c2, rfl, HF.2.base HB6.out.size, HB6.out.trans (HF.1.mono HB6.out.size)⟩
end Go.Proofs.Ytgmgenggboicnaa
namespace Go.Proofs.Ytgmgenggboicnaa
open Go.RowKit Go.Shelf Pz Ar Qu
set_option linter.unusedVariables false
set_option linter.unusedSimpArgs false

theorem sort_snoc (κ : Bn → K3) (l : List Bn) (x : Bn) : sortL κ (l ++ [x]) = ins κ x (sortL κ l) := by
  unfold sortL
  rw [List.foldl_append]
  rfl
theorem before_far (X Y : Int) (x y : Bn) : before (farK X Y x) (farK X Y y) = decide (Rc.far y.x y.y X Y > Rc.far x.x x.y X Y) := by
  rw [Bool.eq_iff_iff, before_iff, decide_eq_true_eq]
  unfold farK
  simp only
  omega
set_option maxHeartbeats 16000000 in
set_option maxRecDepth 100000 in
theorem rnear_any {w : World} {A : Option Addr} {c : Nat} {l : List Bn} (h : RdB w w.heap.size A l) (hl : l.length ≤ 1000) (hm : ∀ x ∈ l, may x = true) {q0 : Int} (h0 : Fit q0) (q1 X Y D : Int) :
    Calls Try.prog 42 #[.slice A l.length c, qV q0 q1, .int .i64 X, .int .i64 Y, .int .i64 D] w fun e w' => ∃ A' c', e = .returned (.slice A' (nears q0 q1 X Y D l).length c') ∧ OwnB w' w.heap.size (.slice A' (nears q0 q1 X Y D l).length c') (nears q0 q1 X Y D l) ∧ Below w.heap.size w w' := by
  unfold nears
  rw [← told_filter]
  obtain ⟨P, hP⟩ : ∃ P : Bn → Bool, P = fun x : Bn => decide (Rc.far x.x x.y X Y ≤ D) := ⟨_, rfl⟩
  have HP : Hid (∀ x : Bn, decide (Rc.far x.x x.y X Y ≤ D) = P x) := Lib.hid fun x => by rw [hP]
  have HC : Hid (∀ (x : Bn) V, Calls Try.prog 46 #[.int .i64 X, .int .i64 Y, .int .i64 x.x, .int .i64 x.y] V fun e V' => e = .returned (.int .i64 (Rc.far x.x x.y X Y)) ∧ V = V') := Lib.hid fun x V => by
    rw [far_comm]
    exact rfar_all X Y x.x x.y V
  rw [← hP]
  have BF9 := Lib.hid fun x y => before_far X Y x y
  have BE := bel1 w (.cells #[.int .i64 q0, .int .i64 q1] QTY)
  obtain ⟨⟨k0, k1⟩, _⟩ := Bx.b2 (at1 w (.cells #[.int .i64 q0, .int .i64 q1] QTY))
  have OF := Lib.hid (rof_any (c := c) ((h.below BE).more BE.size) hl hm h0 q1)
  have hgl : (told q0 q1 yes l).length ≤ 1000 := Nat.le_trans (told_le _ _ _ _) hl
  clear hP h hm
  obtain ⟨G, hG⟩ : ∃ G, G = told q0 q1 yes l := ⟨_, rfl⟩
  obtain ⟨κ, hκ⟩ : ∃ κ, κ = farK X Y := ⟨_, rfl⟩
  rw [← hκ] at BF9 ⊢
  rw [← hG] at OF hgl ⊢
  clear hG hκ
  have FL : Hid (∀ k, (sortL κ ((G.take k).filter P)).length ≤ 1000) := Lib.hid fun k => by rw [sort_len]; exact Nat.le_trans (List.length_filter_le _ _) (by rw [List.length_take]; omega)
  have FA : Hid (sortL κ ((G.take G.length).filter P) = sortL κ (G.filter P)) := Lib.hid (by rw [List.take_length])
  have hl1 : (G.length : Int) ≤ 1000 := by omega
  go_enter Try.func42, Try.ntmps42
  go_upto_region 2 with fail
  generalize w.alloc (.cells #[.int .i64 q0, .int .i64 q1] QTY) = w1 at *
  go_upto_region 4 with (go_at_call 32; refine OF.out.mono ?_; rintro e w6 ⟨A6, c6, rfl, o6, b6⟩; have B6 := BE.trans (b6.mono BE.size); clear OF k0 k1 b6)
  have HR := Lib.hid (RdB.of_own o6)
  have HB6 := Lib.hid B6
  have H0 : Hid (Below w6.heap.size w6 w6 ∧ OwnB w6 w6.heap.size (.slice none 0 0) (sortL κ ((G.take 0).filter P))) := Lib.hid ⟨Below.refl _ _, .inl ⟨rfl, rfl⟩⟩
  clear BE B6 o6
  go_loopw [11, 13] (fun v i wr => ∃ (k : Nat) (A2 : Option Addr) (c2 : Nat), k ≤ G.length ∧ i = .int .i64 k ∧ v = .slice A2 (sortL κ ((G.take k).filter P)).length c2 ∧ Hid (Below w6.heap.size w6 wr ∧ OwnB wr w6.heap.size (.slice A2 (sortL κ ((G.take k).filter P)).length c2) (sortL κ ((G.take k).filter P)))) (fun v i _ => G.length - (intOf i).toNat)
  case atStart => exact ⟨0, none, 0, Nat.zero_le _, rfl, rfl, H0⟩
  case round =>
    obtain ⟨i, A2, c2, hk, rfl, rfl, HI⟩ := hrel
    clear H0
    by_cases hkl : i < G.length
    · have t1 : (i : Int) < (G.length : Int) := by omega
      obtain ⟨x, hx⟩ : ∃ x, G[i]? = some x := ⟨_, List.getElem?_eq_getElem hkl⟩
      obtain ⟨ga, oa, rfl, hg, _⟩ := (HR.out.below HI.out.1) i _ hx
      have AI : Hid (∀ V, Below w6.heap.size w6 V → V.cell? ⟨ga, oa + i * 11, none⟩ = some (.int .i64 x.s) ∧ V.cell? ⟨ga, oa + i * 11 + 1, none⟩ = some (.int .i64 x.i) ∧ V.cell? ⟨ga, oa + i * 11 + 2, none⟩ = some (.int .i64 x.g) ∧ V.cell? ⟨ga, oa + i * 11 + 3, none⟩ = some (.int .i64 x.m) ∧ V.cell? ⟨ga, oa + i * 11 + 4, none⟩ = some (.int .i64 x.x) ∧ V.cell? ⟨ga, oa + i * 11 + 5, none⟩ = some (.int .i64 x.y) ∧ V.cell? ⟨ga, oa + i * 11 + 6, none⟩ = some (.int .i64 x.vx) ∧ V.cell? ⟨ga, oa + i * 11 + 7, none⟩ = some (.int .i64 x.vy) ∧ V.cell? ⟨ga, oa + i * 11 + 8, none⟩ = some (.int .i64 x.h) ∧ V.cell? ⟨ga, oa + i * 11 + 9, none⟩ = some (.int .i64 x.p) ∧ V.cell? ⟨ga, oa + i * 11 + 10, none⟩ = some (.int .i64 x.l)) := Lib.hid fun V hV => by
        obtain ⟨g', o', e, _, hc⟩ := (HR.out.below hV) i _ hx
        cases e
        exact hc
      have SK := filt_take (P := P) hx
      have PX := HP.out x
      have hfl := FL.out i
      have FX := Lib.hid fun V => HC.out x V
      have BFX := Lib.hid fun y => BF9.out x y
      obtain ⟨out, hout⟩ : ∃ out, out = sortL κ ((G.take i).filter P) := ⟨_, rfl⟩
      have SNX : Hid ((P x) = true → sortL κ ((G.take (i + 1)).filter P) = ins κ x out) := Lib.hid fun h => by rw [SK, if_pos h, sort_snoc, hout]
      have SNO : Hid ((P x) = false → sortL κ ((G.take (i + 1)).filter P) = out) := Lib.hid fun h => by rw [SK, if_neg (by rw [h]; decide), hout]
      rw [← hout] at HI hfl ⊢
      clear SK hout HP FL FA HR hx hg BF9
      have KP : Hid (∀ V, Below wr.heap.size wr V → Below w6.heap.size w6 V ∧ OwnB V w6.heap.size (.slice A2 out.length c2) out) := Lib.hid fun V hV => ⟨HI.out.1.trans (hV.mono HI.out.1.size), HI.out.2.below hV⟩
      obtain ⟨k_0, k_1, k_2, k_3, k_4, k_5, k_6, k_7, k_8, k_9, k_10⟩ := AI.out wr HI.out.1
      clear HI
      obtain ⟨f, hf⟩ : ∃ f, f = Rc.far x.x x.y X Y := ⟨_, rfl⟩
      rw [← hf] at PX FX BFX
      clear hf
      by_cases hfD : f ≤ D
      · have dD : decide (f > D) = false := decide_eq_false (by omega)
        have dD2 : ¬ D < f := by omega
        have hPx : P x = true := by rw [← PX]; exact decide_eq_true hfD
        have SN := SNX.out hPx
        clear PX SNX SNO hPx
        go_upto_region 6 with fail
        go_quiet (first | (go_at_call 46; with_reducible exact quiet_same (FX.out _)))
        rename_i nq
        obtain ⟨HB3, HO3⟩ := KP.out _ (below_dn wr nq)
        replace HB3 := Lib.hid HB3
        replace HO3 := Lib.hid HO3
        clear KP FX k_0 k_1 k_2 k_3 k_4 k_5 k_6 k_7 k_8 k_9 k_10
        generalize wr.drewN nq = wa at *
        obtain ⟨A4, cr, w', hr, hb1, hb2, ho1⟩ := push_past HB3.out (Nat.le_refl _) HB3.out.size HO3.out (by omega) x
        obtain ⟨n1, hn1⟩ : ∃ n1, n1 = out.length + 1 := ⟨_, rfl⟩
        rw [show (out ++ [x]).length = n1 by rw [hn1, List.length_append]; rfl] at hr ho1
        have HRH := Lib.hid hr
        have HN1 := Lib.hid hn1
        have hn1' : (n1 : Int) ≤ 1001 := by omega
        have HOL := Lib.hid ho1
        have HB4 := Lib.hid hb1
        have HH := Lib.hid (Hole.start (κ := κ) x out)
        have NX : Hid (∀ R k, Hole κ x out R k → insK κ x out k = k → R.set k x = sortL κ ((G.take (i + 1)).filter P)) := Lib.hid fun R k h1 h2 => by rw [SN]; exact h1.fin h2
        have NL : Hid ((sortL κ ((G.take (i + 1)).filter P)).length = n1) := Lib.hid (by rw [SN, ins_len, hn1])
        have HLEN : Hid (∀ R k, Hole κ x out R k → R.length = n1) := Lib.hid fun R k h => by rw [h.len, hn1]
        obtain ⟨k_0, k_1, k_2, k_3, k_4, k_5, k_6, k_7, k_8, k_9, k_10⟩ := AI.out wa HB3.out
        have hol9 : out.length ≤ 1000 := hfl
        clear hr hn1 ho1 hb1 hb2 HB3 HO3 SN hfl
        generalize hnl : out.length = nl at *
        have hnl' := Lib.hid hnl
        clear hnl
        obtain ⟨x', hx'⟩ : ∃ x', x' = x := ⟨_, rfl⟩
        simp only [bobj] at HRH
        go_wp2_with (at_builtin; refine wpList_append _ rfl (.tmp 43) (.tmp 48) _ _ rfl _ _ rfl rfl _ _ HRH.out ?_; clear HRH k_0 k_1 k_2 k_3 k_4 k_5 k_6 k_7 k_8 k_9 k_10)
        go_loopw [15] (fun kx wr2 => ∃ (k : Nat) (R : List Bn), k ≤ nl ∧ kx = .int .i64 k ∧ Hid (OwnB wr2 w6.heap.size (.slice A4 n1 cr) R) ∧ Hid (Below w6.heap.size w6 wr2) ∧ Hid (Hole κ x out R k)) (fun kx _ => (intOf kx).toNat)
        case atStart => exact ⟨nl, _, Nat.le_refl _, rfl, HOL, HB4, HH⟩
        case round =>
          obtain ⟨k, R, hk, rfl, HOX, HBX, HL⟩ := hrel
          clear HOL HB4 HH
          have hkn : k < n1 := by have := HN1.out; have := hnl'.out; omega
          by_cases h0 : 0 < k
          · obtain ⟨k', hk'⟩ : ∃ k', k = k' + 1 := ⟨k - 1, by omega⟩
            obtain ⟨y, hy⟩ : ∃ y, R[k']? = some y := ⟨_, List.getElem?_eq_getElem (by have := HLEN.out R k HL.out; omega)⟩
            have t2 : decide ((k : Int) > 0) = true := decide_eq_true (by omega)
            have t2' : decide (0 < k) = true := decide_eq_true h0
            have ws : IntKind.i64.wrap ((k : Int) - 1) = (k' : Int) := by rw [IntWalk.i64_in _ (by omega)]; omega
            have tk : (k' : Int) < (n1 : Int) := by omega
            have tn : (k : Int) < (n1 : Int) := by omega
            have HOY := HOX.out
            rw [← HLEN.out R k HL.out] at HOY
            obtain ⟨gb, ob, rfl, hgb, ⟨m_0, m_1, m_2, m_3, m_4, m_5, m_6, m_7, m_8, m_9, m_10⟩, _⟩ := own_at HOY hy
            have FY := Lib.hid fun V => HC.out y V
            have HK9 : Hid (before (κ x) (κ y) = false → insK κ x out k = k) := Lib.hid fun hb => by
              have h8 := HL.out
              rw [hk'] at h8 ⊢
              exact h8.stop hy hb
            have HD9 : Hid (before (κ x) (κ y) = true → Hole κ x out (R.set k y) k') := Lib.hid fun hb => by
              have h8 := HL.out
              rw [hk'] at h8 ⊢
              exact h8.down hy hb
            have BY := BFX.out y
            obtain ⟨fy, hfy⟩ : ∃ fy, fy = Rc.far y.x y.y X Y := ⟨_, rfl⟩
            rw [← hfy] at FY BY
            replace hk' := Lib.hid hk'
            generalize before (κ x) (κ y) = bf at *
            clear hgb h0 hfy
            go_upto_region 10 with fail
            cases bf with
            | false =>
              have dB : decide (fy > f) = false := BY.symm
              have HK := Lib.hid (HK9.out rfl)
              clear HK9 HD9 BY
              go_quiet (first | (go_at_call 46; with_reducible exact quiet_same (FY.out _)))
              rename_i nq
              have HOX2 := Lib.hid (HOX.out.below (below_dn wr nq))
              have HBX2 := Lib.hid (HBX.out.trans ((below_dn wr nq).mono HBX.out.size))
              clear FY HOX HBX HOY m_0 m_1 m_2 m_3 m_4 m_5 m_6 m_7 m_8 m_9 m_10
              generalize wr.drewN nq = W at *
              obtain ⟨g, o, e0, ⟨y0, hy0, d0, d1, d2, d3, d4, d5, d6, d7, d8, d9, d10⟩, ⟨f0, f1, f2, f3, f4, f5, f6, f7, f8, f9, f10⟩, HP⟩ := row_put HOX2.out (HLEN.out R k HL.out) hkn x
              cases e0
              have EQX := NX.out R k HL.out HK.out
              rw [EQX] at HP
              have HBX3 : Hid (Below w6.heap.size w6 _) := Lib.hid (HBX2.out.trans (HP.out.2.mono (Nat.le_refl _)))
              have HPO := Lib.hid HP.out.1
              obtain ⟨k_0, k_1, k_2, k_3, k_4, k_5, k_6, k_7, k_8, k_9, k_10⟩ := AI.out W HBX2.out
              clear EQX HP HOX2 HBX2 HL HK HLEN NX hy0 HC BFX
              generalize y0.s = q0' at *
              go_wp2
              go_roundw
              case rel => exact ⟨i + 1, _, _, by omega, by go_num, by rw [NL.out], by have h9 := HPO.out; rw [← NL.out] at h9; exact Lib.hid ⟨HBX3.out, h9⟩⟩
              case measure => simp [intOf]; omega
            | true =>
              have dB : decide (fy > f) = true := BY.symm
              have HD := Lib.hid (HD9.out rfl)
              clear HK9 HD9 BY
              go_quiet (first | (go_at_call 46; with_reducible exact quiet_same (FY.out _)))
              rename_i nq
              have HOX2 := Lib.hid (HOX.out.below (below_dn wr nq))
              have HBX2 := Lib.hid (HBX.out.trans ((below_dn wr nq).mono HBX.out.size))
              clear FY HOX HBX HOY m_0 m_1 m_2 m_3 m_4 m_5 m_6 m_7 m_8 m_9 m_10
              generalize wr.drewN nq = W at *
              have HOZ := HOX2.out
              rw [← HLEN.out R k HL.out] at HOZ
              obtain ⟨gc, oc, e, _, ⟨d0, d1, d2, d3, d4, d5, d6, d7, d8, d9, d10⟩, _⟩ := own_at HOZ hy
              cases e
              obtain ⟨g, o, e, ⟨y0, hy0, c0, c1, c2, c3, c4, c5, c6, c7, c8, c9, c10⟩, ⟨f0, f1, f2, f3, f4, f5, f6, f7, f8, f9, f10⟩, HP⟩ := row_put HOX2.out (HLEN.out R k HL.out) hkn y
              cases e
              have HBX3 : Hid (Below w6.heap.size w6 _) := Lib.hid (HBX2.out.trans (HP.out.2.mono (Nat.le_refl _)))
              have HPO := Lib.hid HP.out.1
              have tkk : k' < k := by have := hk'.out; omega
              have tke : k' ≤ nl := by omega
              clear HP HOX2 HBX2 HL HLEN NX hy0 HOZ AI HC BFX
              go_wp2
              go_roundw
              case rel => exact ⟨k', _, tke, by go_num, HPO, HBX3, HD⟩
              case measure => simp [intOf]; omega
          · have t2 : decide ((k : Int) > 0) = false := decide_eq_false (by omega)
            have t2' : decide (0 < k) = false := decide_eq_false h0
            have HK : Hid (insK κ x out k = k) := Lib.hid (by
              have e : k = 0 := by omega
              rw [e]; rfl)
            have tn : (k : Int) < (n1 : Int) := by omega
            clear h0
            go_upto_region 10 with fail
            go_quiet (fail)
            rename_i nq
            have HOX2 := Lib.hid (HOX.out.below (below_dn wr nq))
            have HBX2 := Lib.hid (HBX.out.trans ((below_dn wr nq).mono HBX.out.size))
            clear HOX HBX
            generalize wr.drewN nq = W at *
            obtain ⟨g, o, rfl, ⟨y0, hy0, d0, d1, d2, d3, d4, d5, d6, d7, d8, d9, d10⟩, ⟨f0, f1, f2, f3, f4, f5, f6, f7, f8, f9, f10⟩, HP⟩ := row_put HOX2.out (HLEN.out R k HL.out) hkn x
            have EQX := NX.out R k HL.out HK.out
            rw [EQX] at HP
            have HBX3 : Hid (Below w6.heap.size w6 _) := Lib.hid (HBX2.out.trans (HP.out.2.mono (Nat.le_refl _)))
            have HPO := Lib.hid HP.out.1
            obtain ⟨k_0, k_1, k_2, k_3, k_4, k_5, k_6, k_7, k_8, k_9, k_10⟩ := AI.out W HBX2.out
            clear EQX HP HOX2 HBX2 HL HK HLEN NX hy0 HC BFX
            generalize y0.s = q0' at *
            go_wp2
            go_roundw
            case rel => exact ⟨i + 1, _, _, by omega, by go_num, by rw [NL.out], by have h9 := HPO.out; rw [← NL.out] at h9; exact Lib.hid ⟨HBX3.out, h9⟩⟩
            case measure => simp [intOf]; omega
      · have dD : decide (f > D) = true := decide_eq_true (by omega)
        have dD2 : D < f := by omega
        have hPx : P x = false := by rw [← PX]; exact decide_eq_false hfD
        have SN := SNO.out hPx
        clear PX SNX SNO hPx HC BFX
        go_upto_region 6 with fail
        go_quiet (first | (go_at_call 46; with_reducible exact quiet_same (FX.out _)))
        rename_i nq
        have NXT := KP.out _ (below_dn wr nq)
        rw [← SN] at NXT
        replace NXT := Lib.hid NXT
        have SL : out.length = (sortL κ ((G.take (i + 1)).filter P)).length := by rw [SN]
        clear KP FX k_0 k_1 k_2 k_3 k_4 k_5 k_6 k_7 k_8 k_9 k_10 AI
        generalize wr.drewN nq = wa at *
        generalize out.length = nl at *
        go_wp2
        go_roundw
        case rel => exact ⟨i + 1, A2, c2, by omega, by go_num, by rw [SL], by rw [SL] at *; exact NXT⟩
        case measure => simp [intOf]; omega
    · obtain rfl : i = G.length := by omega
      have t1 : ¬ (G.length : Int) < (G.length : Int) := by omega
      have HF := HI.out
      rw [FA.out] at HF
      clear HI FL HR FA HC HP BF9
      go_wp2
      go_ret
      exact ⟨A2, c2, rfl, HF.2.base HB6.out.size, HB6.out.trans (HF.1.mono HB6.out.size)⟩
end Go.Proofs.Ytgmgenggboicnaa
