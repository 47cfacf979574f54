/- wal's frames, All. -/
import Derived.Test.YtpafialojcidnaaGreatDoorWlSegs
import Derived.Laws.OwnMore
namespace Go.Proofs.YtpafialojcidnaaGreatDoor
open Go.RowKit Go.Maps Dk
open Wl (Lo)
set_option linter.unusedVariables false

theorem ret_three {a b c a' b' c' : Value} (h1 : a = a') (h2 : b = b') (h3 : c = c') : Ending.returned (.tuple #[a, b, c]) = .returned (.tuple #[a', b', c']) := by rw [h1, h2, h3]

set_option maxHeartbeats 4000000 in
set_option maxRecDepth 100000 in
theorem frames_any (w : World) {B b d : Nat} {g : Lo} {K : St} (h : LogAt w B b d g) (hd : DiskAt w B d K) (ht : Tabs B w) (hB : B ≤ w.heap.size) (hnm : g.nm.length ≤ 16) {n : Nat} (hn : n ≤ 99999999) {s : Str} (e : Dk.read K (Wl.file g.nm n) = (s, 0)) (hs : s.length ≤ 4194304) :
    Calls Tryz.prog 32 #[.pointer (some ⟨b, 0, none⟩), .int .i64 (n : Int)] w fun e w' => ∃ v, e = .returned (.tuple #[v, .int .i64 (Fr.place (Fr.all s) : Nat), .int .i64 (s.length : Int)]) ∧ OwnS w' w.heap.size v (Fr.all s) ∧ Below w.heap.size w w' := by
  have k0 := h.disk
  have hlt := h.lt
  have F := Lib.hid (fun (p : Lat grows w) => file_any p.W (h.below p.h) (ht.below p.h hB) (Nat.le_trans hB p.h.size) hnm n hn)
  have R : Hid (∀ p : Lat grows w, Calls Tryz.prog 22 #[.pointer (some ⟨d, 0, none⟩), .string ⟨(Wl.file g.nm n).toArray⟩] p.W fun e w' => e = .returned (.tuple #[.string ⟨s.toArray⟩, .int .i64 0]) ∧ p.W = w') := Lib.hid fun p => by
    refine (read_any p.W (hd.below p.h) (Wl.file g.nm n) (by rw [Wl.file_len]; omega)).mono ?_
    rintro e' w' ⟨h1, h2⟩
    rw [e] at h1
    exact ⟨h1, h2⟩
  have A := Lib.hid (fun W (hb : Below w.heap.size w W) => all_any s W (by omega) (ht.below hb hB).good)
  clear h hd ht hnm hn e
  generalize Wl.file g.nm n = fl at *
  generalize Fr.place (Fr.all s) = pl at *
  go_enter Tryz.func32, Tryz.ntmps32
  go_wp2_with fail
  refine Og.grow 13 (by kernel_rfl) (by kernel_rfl) fun hc hf => ?_
  simp only [List.take_succ_cons, List.take_zero, List.drop_succ_cons, List.drop_zero]
  repeat (refine Og.det [] rfl (fun K hK => ?_); go_simp; first | (refine hK _ _ ?_; clear hK K) | (with_reducible refine ⟨_, fun p => Og.lays (F.out p), hK _ _ ?_⟩; clear hK K) | (with_reducible refine ⟨_, fun p => Og.same (R.out p), hK _ _ ?_⟩; clear hK K))
  refine Og.fin fun W hW => ?_
  simp only [Og.opened_nil]
  clear hc hf
  have HW := Lib.hid hW
  clear hW
  go_wp2_with fail
  refine (A.out _ HW.out).mono ?_
  rintro e w1 ⟨v, rfl, hO, b1⟩
  have HO := Lib.hid hO
  have HB := Lib.hid b1
  clear hO b1
  obtain ⟨A', cap, rfl⟩ := owns_len HO.out
  go_wp2
  go_ret3
  exact ⟨_, rfl, owns_base HO.out HW.out.size, HW.out.trans (HB.out.mono HW.out.size)⟩

/-! ### rows that are joined -/
/-- append, as an operation, by its run -/
theorem wpList_append {P : Program} (w : World) {ops : Array Oper} {rest : List Oper} {o : Oper} {a : Act} {Q : Exit → Act → World → Prop} (hg : o.guard = none) (s x : Operand) (t t' : TypeId) (hop : o.op = Op.call { callee := Callee.builtin Builtin.append, args := #[s, x], argTypes := #[t, t'] })
    (v xv : Value) (hs : a.eval s = v) (hx : a.eval x = xv) (v' : Value) (w' : World) (hrun : (Builtin.append_ #[t, t'] o.type #[v, xv]).run P w = .ok v' w') (hK : wpList P ops Q rest (a.put o.dst v') w') :
    wpList P ops Q (o :: rest) a w := by
  refine wpList_plain hg fun K' hK' => ?_
  unfold Oper.wp
  simp [execOp, hop, resolve, invoke, builtin, hs, hx, hrun, Result.andThen]
  exact hK' _ _ hK
theorem strings_app (l m : List (List UInt8)) : strings (l ++ m) = strings l ++ strings m := List.map_append
theorem append_rows {W : World} {B B' : Nat} {v u : Value} {l m : List (List UInt8)} (h : OwnS W B v l) (k : OwnS W B' u m) (hB : B ≤ W.heap.size) (hl : l.length + m.length ≤ 1000000000) (ty : TypeId) :
    ∃ v' W', (Builtin.append_ #[22, 22] ty #[v, u]).run Tryz.prog W = .ok v' W' ∧ OwnS W' B v' (l ++ m) ∧ Below B W W' := by
  obtain ⟨i, hi, hz, h2, h3⟩ := info_parts str_info
  rcases k.2 with ⟨rfl, hn⟩ | ⟨g, cap, cur, rfl, _, _, _⟩
  · obtain rfl := List.length_eq_zero_iff.1 hn
    exact ⟨v, W, run_append_owned_none W B _ ty _ i 1 strs_und hi v _ _ h, by rw [List.append_nil]; exact h, Below.refl _ _⟩
  · obtain ⟨v', W', hr, ho, hg, _, hloc⟩ := run_append_own_at (P := Tryz.prog) W B 22 ty 9 i _ 1 16 strs_und hi hz h2 h3 rfl (by decide) v l.length (strings l) h ⟨g, 0, none⟩ m.length cap (strings m) (by simp [strings]) (World.ownsRow.cells k (g := g) rfl) (fun x hx => by obtain ⟨_, _, rfl⟩ := List.mem_map.1 hx; rfl) (by unfold maxLen; omega) (by omega) hB
    refine ⟨v', W', hr, ?_, (Below.refl B W).grown hg hB (fun k hk => (World.ownsRow.lt h k hk).1)⟩
    show W'.ownsRow B _ 1 v' (l ++ m).length (strings (l ++ m))
    rw [strings_app, List.length_append]
    exact ho

/-! ### All -/
theorem Ns.read {nm : Str} {K : St} {ns : List Nat} (h : Ns nm K ns) (ok : Ok K) {n : Nat} (hn : n ∈ ns) : Dk.read K (Wl.file nm n) = (Wl.got K nm n, 0) ∧ (Wl.got K nm n).length ≤ 4194304 := by
  have : Wl.file nm n ∈ K.L.map (·.name) := by rw [h.1]; exact List.mem_map.2 ⟨n, hn, rfl⟩
  obtain ⟨f, hf, he⟩ := List.mem_map.1 this
  have hl := look_mem ok.sorted hf
  have hb := ok.names f hf
  have hh := has_mem hf
  rw [he] at hl hb hh
  have e : Dk.read K (Wl.file nm n) = (f.all, 0) := by simp [Dk.read, err0, hb, hh, hl]
  have e2 : Wl.got K nm n = f.all := by rw [Wl.got, e]
  exact ⟨by rw [e, e2], by rw [e2]; exact ok.small f hf⟩
def recsOf (K : St) (nm : Str) (ns : List Nat) : List Str := (ns.map fun n => Fr.all (Wl.got K nm n)).flatten
theorem recs_snoc (K : St) (nm : Str) (ns : List Nat) (k : Nat) (h : k < ns.length) : recsOf K nm (ns.take (k + 1)) = recsOf K nm (ns.take k) ++ Fr.all (Wl.got K nm ns[k]) := by
  unfold recsOf
  rw [List.take_succ_eq_append_getElem h, List.map_append, List.flatten_append]
  simp
theorem place_len : ∀ l : List Str, l.length ≤ Fr.place l
  | [] => Nat.zero_le _
  | x :: l => by have := place_len l; rw [Fr.place_cons, List.length_cons]; omega
theorem all_len (s : Str) : (Fr.all s).length ≤ s.length := by
  have key : ∀ (f : Nat) (r : Str), (Fr.allF f r).length ≤ r.length := by
    intro f
    induction f with
    | zero => intro r; simp [Fr.allF]
    | succ f ih =>
      intro r
      rw [Fr.allF]
      split
      · rename_i h
        have h1 := (Fr.first_zero h).1
        have := ih (r.drop ((Fr.first r).2.length + 7))
        rw [List.length_drop] at this
        rw [List.length_cons]
        omega
      · simp
  exact key _ _
theorem recs_len (K : St) (nm : Str) (ns : List Nat) (h : ∀ n ∈ ns, (Wl.got K nm n).length ≤ 4194304) : (recsOf K nm ns).length ≤ ns.length * 4194304 := by
  induction ns with
  | nil => simp [recsOf]
  | cons n ns ih =>
    have h1 := h n (List.mem_cons_self ..)
    have h2 := ih fun m hm => h m (List.mem_cons_of_mem _ hm)
    have h3 := all_len (Wl.got K nm n)
    unfold recsOf at *
    rw [List.map_cons, List.flatten_cons, List.length_append, List.length_cons]
    omega

set_option maxHeartbeats 8000000 in
set_option maxRecDepth 100000 in
theorem lall_any (w : World) {B b d : Nat} {g : Lo} {K : St} (h : LogAt w B b d g) (hd : DiskAt w B d K) (ht : Tabs B w) (hB : B ≤ w.heap.size) (hnm : g.nm.length ≤ 16) {ns : List Nat} (hN : Ns g.nm K ns) :
    Calls Tryz.prog 13 #[.pointer (some ⟨b, 0, none⟩)] w fun e w' => ∃ v, e = .returned v ∧ OwnS w' w.heap.size v (recsOf K g.nm ns) ∧ Below w.heap.size w w' := by
  have hns : ns.length ≤ 64 := by
    have := congrArg List.length hN.1
    rw [List.length_map, List.length_map] at this
    rw [← this]
    exact hd.ok.few
  have S := Lib.hid (segments_any w h hd hnm hN)
  have hgot := fun n (hn : n ∈ ns) => hN.read hd.ok hn
  have F := Lib.hid (fun (W : World) (hW : Below w.heap.size w W) (k : Nat) (hk : k < ns.length) => frames_any W (h.below hW) (hd.below hW) (ht.below hW hB) (Nat.le_trans hB hW.size) hnm (hN.2 _ (List.getElem_mem hk)) (hgot _ (List.getElem_mem hk)).1 (hgot _ (List.getElem_mem hk)).2)
  have LN := Lib.hid (fun k => recs_len K g.nm (ns.take k) fun n hn => (hgot n (List.mem_of_mem_take hn)).2)
  have AL := Lib.hid (fun k (hk : k < ns.length) => Nat.le_trans (all_len (Wl.got K g.nm ns[k])) (hgot _ (List.getElem_mem hk)).2)
  clear h hd ht hB hN hgot
  generalize g.nm = nm at *
  go_enter Tryz.func13, Tryz.ntmps13
  go_wp2_with fail
  refine S.out.mono ?_
  rintro e w1 ⟨v, rfl, hO, b1⟩
  obtain ⟨A, cap, rfl, hR⟩ := own_at hO
  rw [nats_len]
  have HR := Lib.hid hR
  have HB1 := Lib.hid b1
  have hs1 := b1.size
  clear S hO hR b1
  go_wp2
  go_loopw [3, 12] (fun v i wr => ∃ m : Nat, m ≤ ns.length ∧ i = .int .i64 m ∧ Hid (OwnS wr w1.heap.size v (recsOf K nm (ns.take m))) ∧ Hid (Below w1.heap.size w1 wr)) (fun _ i _ => ns.length - (intOf i).toNat)
  case atStart => exact ⟨0, Nat.zero_le _, rfl, Lib.hid (owns_nil _ _), Lib.hid (Below.refl _ _)⟩
  case round =>
    obtain ⟨m, hm, rfl, hown, hbel⟩ := hrel
    by_cases hlt2 : m < ns.length
    · obtain ⟨bk, off, rfl, hbB, hcell⟩ := (HR.out.below hbel.out).at_ (k := m) (by simpa [ints, nats] using hlt2)
      have hcw : wr.cell? ⟨bk, off + m, none⟩ = some (.int .i64 (ns[m] : Int)) := by rw [hcell]; simp [ints, nats]
      have hBw := HB1.out.trans (hbel.out.mono hs1)
      have N := Lib.hid (F.out wr hBw m hlt2)
      have HS := Lib.hid (recs_snoc K nm ns m hlt2)
      have hl1 := LN.out m
      have hl2 := AL.out m hlt2
      rw [List.length_take] at hl1
      have hsz := hbel.out.size
      generalize Wl.got K nm ns[m] = s at *
      generalize (ns[m] : Nat) = n at *
      clear hcell hBw
      go_wp2_with fail
      refine N.out.mono ?_
      rintro e w2 ⟨u, rfl, hO2, b2⟩
      obtain ⟨v', w3, hr, ho, hb3⟩ := append_rows (owns_below hown.out b2) hO2 (Nat.le_trans hsz b2.size) (by omega) 22
      have HA := Lib.hid hr
      rw [← HS.out] at ho
      have HO := Lib.hid ho
      have HB := Lib.hid ((hbel.out.trans (b2.mono hsz)).trans hb3)
      clear hown hbel b2 N hO2 hr ho hb3 HS hl1 hl2
      go_wp2_with (at_builtin; refine wpList_append _ rfl (.tmp 23) (.tmp 24) _ _ rfl _ _ rfl rfl _ _ HA.out ?_)
      go_roundw
      case rel => exact ⟨m + 1, by omega, by go_num, HO, HB⟩
      case measure => simp [intOf]; omega
    · obtain rfl : m = ns.length := by omega
      rw [List.take_length] at hown
      go_wp2
      go_ret
      exact ⟨_, rfl, owns_base hown.out hs1, HB1.out.trans (hbel.out.mono hs1)⟩
end Go.Proofs.YtpafialojcidnaaGreatDoor
