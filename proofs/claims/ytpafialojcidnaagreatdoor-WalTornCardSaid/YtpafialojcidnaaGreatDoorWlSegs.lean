/- wal's Segments, First, Next, Sync. -/
import Derived.Test.YtpafialojcidnaaGreatDoorWlName
namespace Go.Proofs.YtpafialojcidnaaGreatDoor
open Go.RowKit Go.Maps Dk
open Wl (Lo)
set_option linter.unusedVariables false

/-! ### rows of ints that the call made -/
theorem int_info : (Tryz.prog.info? 3).map (fun i => (i.zero, i.size, i.bytes)) = some (some (.int .i64 0), 1, 8) := by kernel_rfl
theorem ints_und : Tryz.prog.underlying 38 = some (.slice 3) := by kernel_rfl
abbrev Own (W : World) (B : Nat) (v : Value) (l : List Int) : Prop := W.ownsRow B 3 1 v l.length (l.map (Value.int .i64))
theorem own_nil (W : World) (B : Nat) : Own W B (.slice none 0 0) [] := World.ownsRow_nil _ _ _ _
theorem own_below {W W' : World} {B : Nat} {v : Value} {l : List Int} (h : Own W B v l) (hb : Below W.heap.size W W') : Own W' B v l :=
  World.ownsRow.kept h (below_grown hb) (by cases v.ownBlock <;> simp)
/-- whoever leaves rows of this type leaves this one -/
theorem own_kp {W W' : World} {B : Nat} {v : Value} {l : List Int} (h : Own W B v l) {p : Obj → Bool} (hp : ∀ cs, p (.cells cs 3 (0, 0)) = true) (hk : Kp p W W') : Own W' B v l :=
  row_kept h fun b hv => by
    obtain ⟨_, cs, h2⟩ := row_block h hv
    rw [h2]
    exact hk b _ h2 (hp cs)
theorem owns_kp {W W' : World} {B : Nat} {v : Value} {l : List (List UInt8)} (h : OwnS W B v l) {p : Obj → Bool} (hp : ∀ cs, p (.cells cs 9 (0, 0)) = true) (hk : Kp p W W') : OwnS W' B v l :=
  row_kept h fun b hv => by
    obtain ⟨_, cs, h2⟩ := row_block h hv
    rw [h2]
    exact hk b _ h2 (hp cs)
theorem own_base {W : World} {B B' : Nat} {v : Value} {l : List Int} (h : Own W B v l) (hb : B' ≤ B) : Own W B' v l := by
  refine ⟨h.1, ?_⟩
  rcases h.2 with hn | ⟨g, cap, cur, e, hg, rest⟩
  · exact .inl hn
  · exact .inr ⟨g, cap, cur, e, by omega, rest⟩
theorem push_step {B : Nat} {w wr w1 : World} {v v' : Value} {l : List Int} {x : Int} {o : Obj} (hown : Own wr B v l) (hnx : Below B w wr) (hB : B ≤ wr.heap.size)
    (hown' : w1.ownsRow B 3 1 v' (l.length + 1) (l.map (Value.int .i64) ++ [.int .i64 x])) (hgrow : (wr.alloc o).grownBy w1 v.ownBlock) : Own w1 B v' (l ++ [x]) ∧ Below B w w1 :=
  ⟨by show w1.ownsRow B 3 1 v' (l ++ [x]).length ((l ++ [x]).map (Value.int .i64)); simpa using hown', (hnx.alloc hB o).grown hgrow (by simp; omega) (fun j hj => (World.ownsRow.lt hown j hj).1)⟩
theorem own_len {W : World} {B : Nat} {v : Value} {l : List Int} (h : Own W B v l) : ∃ A cap, v = .slice A l.length cap := by
  rcases h.2 with ⟨hv, hn⟩ | ⟨g, cap, cur, hv, _⟩
  · exact ⟨none, 0, by rw [hv, hn]⟩
  · exact ⟨_, cap, hv⟩
/-- the row's slice and its cells -/
theorem own_at {W : World} {B : Nat} {v : Value} {l : List Int} (h : Own W B v l) : ∃ A cap, v = .slice A l.length cap ∧ Reads W W.heap.size A (ints l) := by
  rcases h.2 with ⟨hv, hn⟩ | ⟨g, cap, cur, hv, _, hg, _⟩
  · refine ⟨none, 0, by rw [hv, hn], fun h0 => ?_⟩
    rw [show ints l = [] by unfold ints; rw [List.length_eq_zero_iff.1 hn]; rfl] at h0
    simp at h0
  · refine ⟨_, cap, hv, fun _ => ⟨g, 0, rfl, (Array.getElem?_eq_some_iff.1 hg).1, fun k x hk => ?_⟩⟩
    have := World.ownsRow.cells h (g := g) (by rw [hv]; rfl) k x hk
    rwa [show (⟨g, 0, none⟩ : Addr).add k = ⟨g, 0 + k, none⟩ by unfold Addr.add; split <;> simp_all] at this

/-! ### the segments of a disk that has segments alone -/
def Ns (nm : Str) (K : St) (ns : List Nat) : Prop := K.L.map (·.name) = ns.map (Wl.file nm) ∧ ∀ n ∈ ns, n ≤ 99999999
def nats (ns : List Nat) : List Int := ns.map fun n : Nat => (n : Int)
theorem nats_len (ns : List Nat) : (nats ns).length = ns.length := List.length_map _
theorem nats_snoc (ns : List Nat) (k : Nat) (h : k < ns.length) : nats (ns.take (k + 1)) = nats (ns.take k) ++ [(ns[k] : Int)] := by
  unfold nats
  rw [List.take_succ_eq_append_getElem h, List.map_append]; rfl

set_option maxHeartbeats 8000000 in
set_option maxRecDepth 100000 in
theorem segments_any (w : World) {B b d : Nat} {g : Lo} {K : St} (h : LogAt w B b d g) (hd : DiskAt w B d K) (hnm : g.nm.length ≤ 16) {ns : List Nat} (hN : Ns g.nm K ns) :
    Calls Tryz.prog 19 #[.pointer (some ⟨b, 0, none⟩)] w fun e w' => ∃ v, e = .returned v ∧ Own w' w.heap.size v (nats ns) ∧ Below w.heap.size w w' := by
  have k0 := h.disk
  have hlt := h.lt
  have hns : ns.length ≤ 64 := by
    have := congrArg List.length hN.1
    rw [List.length_map, List.length_map] at this
    rw [← this]
    exact hd.ok.few
  have F := files_any w hd
  rw [hN.1] at F
  have F := Lib.hid F
  have NU := Lib.hid (fun (W : World) (hW : Below w.heap.size w W) (k : Nat) (hk : k < ns.length) => lnum_any W (h.below hW) hnm ns[k] (hN.2 _ (List.getElem_mem hk)))
  clear h hd hnm hN
  generalize g.nm = nm at *
  obtain ⟨i0, hi, hz0, hz1, hz2⟩ := info_parts int_info
  have HI := Lib.hid (And.intro hi (And.intro hz0 (And.intro hz1 hz2)))
  clear hi hz0 hz1 hz2
  go_enter Tryz.func19, Tryz.ntmps19
  go_wp2_with fail
  refine F.out.mono ?_
  rintro e w1 ⟨⟨v, rfl, hO⟩, b1⟩
  obtain ⟨A, cap, rfl, hR⟩ := owns_at hO
  rw [List.length_map]
  have HR := Lib.hid hR
  have HB1 := Lib.hid b1
  have hs1 := b1.size
  clear F hO hR b1
  go_wp2
  go_loopw [3, 16] (fun v i wr => ∃ m : Nat, m ≤ ns.length ∧ i = .int .i64 m ∧ Hid (Own wr w1.heap.size v (nats (ns.take m))) ∧ Hid (Below w1.heap.size w1 wr)) (fun _ i _ => ns.length - (intOf i).toNat)
  case atStart => exact ⟨0, Nat.zero_le _, rfl, Lib.hid (own_nil _ _), Lib.hid (Below.refl _ _)⟩
  case round =>
    obtain ⟨m, hm, rfl, hown, hbel⟩ := hrel
    by_cases hlt2 : m < ns.length
    · obtain ⟨bk, off, rfl, hbB, hcell⟩ := (HR.out.below hbel.out).at_ (k := m) (by simpa [strings] using hlt2)
      have hcw : wr.cell? ⟨bk, off + m, none⟩ = some (.string ⟨(Wl.file nm ns[m]).toArray⟩) := by rw [hcell]; simp [strings]
      have hBw := HB1.out.trans (hbel.out.mono hs1)
      have N := Lib.hid (NU.out wr hBw m hlt2)
      have HS := Lib.hid (nats_snoc ns m hlt2)
      have hl1 : (nats (ns.take m)).length ≤ 64 := by rw [nats_len, List.length_take]; omega
      have hsz := hbel.out.size
      generalize (ns[m] : Nat) = n at *
      generalize Wl.file nm n = fl at *
      clear hcell hBw
      go_wp2_with fail
      refine N.out.mono ?_
      rintro e w2 ⟨rfl, b2⟩
      have HO := Lib.hid (own_below hown.out b2)
      have HB := Lib.hid (hbel.out.trans (b2.mono hbel.out.size))
      have hsz2 := b2.size
      clear hown hbel b2 N
      go_wp2_with (at_builtin; refine wpList_append_own _ rfl _ _ 38 rfl w1.heap.size 3 i0 (.int .i64 0) 1 8 ints_und HI.out.1 HI.out.2.1 HI.out.2.2.1 HI.out.2.2.2 rfl (by decide) _ _ _ rfl (World.ownsRow.alloc HO.out _) ⟨w2.heap.size, 0, none⟩ 1 1 [.int .i64 (n : Int)] rfl rfl (by intro j u hj; match j, hj with | 0, hj => simp at hj; subst hj; simp [Addr.add]) (by intro u hu; simp at hu; subst hu; rfl) (by unfold maxLen; omega) (by omega) (by rw [size1]; omega) ?_; intro v' w3 hown' hgrow _)
      have R' := push_step HO.out HB.out (by omega) hown' hgrow
      rw [← HS.out] at R'
      have R := Lib.hid R'
      clear R' hown' hgrow HO HB HS
      go_wp2
      go_roundw
      case rel => exact ⟨m + 1, by omega, by go_num, Lib.hid R.out.1, Lib.hid R.out.2⟩
      case measure => simp [intOf]; omega
    · obtain rfl : m = ns.length := by omega
      rw [List.take_length] at hown
      go_wp2
      go_ret
      exact ⟨_, rfl, own_base hown.out hs1, HB1.out.trans (hbel.out.mono hs1)⟩

/-! ### First, Next, Sync -/
set_option maxHeartbeats 2000000 in
set_option maxRecDepth 100000 in
theorem first_some (w : World) {B b d : Nat} {g : Lo} {K : St} (h : LogAt w B b d g) (hd : DiskAt w B d K) (hnm : g.nm.length ≤ 16) {n : Nat} {ns : List Nat} (hN : Ns g.nm K (n :: ns)) :
    Calls Tryz.prog 17 #[.pointer (some ⟨b, 0, none⟩)] w fun e w' => e = .returned (.int .i64 (n : Int)) ∧ Below w.heap.size w w' := by
  have S := Lib.hid (segments_any w h hd hnm hN)
  clear h hd hnm hN
  go_enter Tryz.func17, Tryz.ntmps17
  go_wp2_with fail
  refine S.out.mono ?_
  rintro e w1 ⟨v, rfl, hO, b1⟩
  obtain ⟨A, cap, rfl, hR⟩ := own_at hO
  obtain ⟨bk, off, rfl, _, hcell⟩ := hR.at_ (k := 0) (by simp [ints, nats])
  have hc : w1.cell? ⟨bk, off, none⟩ = some (.int .i64 (n : Int)) := by have := hcell; simpa [ints, nats] using this
  have hl : (nats (n :: ns)).length = ns.length + 1 := by simp [nats]
  rw [hl]
  clear S hO hR hcell hl
  go_wp2
  go_ret
  exact ⟨rfl, b1⟩
set_option maxHeartbeats 1000000 in
set_option maxRecDepth 100000 in
theorem next_any (w : World) {B b d : Nat} {g : Lo} (h : LogAt w B b d g) :
    Calls Tryz.prog 14 #[.pointer (some ⟨b, 0, none⟩)] w fun e w' => e = .returned (.int .i64 (g.next : Int)) ∧ w = w' := by
  have k3 := h.next
  clear h
  generalize g.next = n at *
  go_enter Tryz.func14, Tryz.ntmps14
  go_wp2
  go_ret
  exact ⟨rfl, rfl⟩
set_option maxHeartbeats 4000000 in
set_option maxRecDepth 100000 in
theorem lsync_any {w W : World} {B b d n : Nat} {g : Lo} {K K' : St} (h : Wa w B d K W) (hl : LogAt W B b d g) (hnm : g.nm.length ≤ 16) (hlast : g.last ≤ 99999999) (e : Dk.sync K (Wl.file g.nm g.last) = (K', n)) :
    Calls Tryz.prog 24 #[.pointer (some ⟨b, 0, none⟩)] W fun e w' => e = .returned (.int .i64 (n : Int)) ∧ Wa w B d K' w' ∧ Kp isRef W w' := by
  have k0 := hl.disk
  have k2 := hl.last
  have hlt := hl.lt
  have F := Lib.hid (fun (p : Lat grows W) => file_any p.W (hl.below p.h) (h.tabs.below p.h h.size) (Nat.le_trans h.size p.h.size) hnm g.last hlast)
  have S := Lib.hid (fun W' (hb : Below W.heap.size W W') => (h.below hb).at_)
  have Y : Hid (∀ W', Below W.heap.size W W' → Calls Tryz.prog 48 #[.pointer (some ⟨d, 0, none⟩), .string ⟨(Wl.file g.nm g.last).toArray⟩] W' fun e w' => e = .returned (.int .i64 (n : Int)) ∧ Wa w B d K' w' ∧ Kp isRef W w') := Lib.hid fun W' hb => by
    refine (at_sync ((h.below hb).at_) e (by rw [Wl.file_len]; omega)).mono ?_
    rintro e w' ⟨rfl, hA⟩
    exact ⟨rfl, (h.below hb).via hA, (Kp.below hb).trans hA.out.2.2.kp⟩
  clear h hl hnm hlast e S
  generalize Wl.file g.nm g.last = fl at *
  generalize g.last = last at *
  go_enter Tryz.func24, Tryz.ntmps24
  go_wp2_with fail
  refine Og.grow 10 (by kernel_rfl) (by kernel_rfl) fun hc hf => ?_
  simp only [List.take_succ_cons, List.take_zero, List.drop_succ_cons, List.drop_zero]
  repeat (refine Og.det [] rfl (fun K hK => ?_); go_simp; first | (refine hK _ _ ?_; clear hK K) | (with_reducible refine ⟨_, fun p => Og.lays (F.out p), hK _ _ ?_⟩; clear hK K))
  refine Og.fin fun W' hW => ?_
  simp only [Og.opened_nil]
  clear hc hf
  go_wp2_with (go_at_call 48; refine (Y.out _ hW).mono ?_; rintro e w1 ⟨rfl, hk1, hk2⟩; have HK1 := Lib.hid hk1; have HK2 := Lib.hid hk2; clear hk1 hk2)
  go_ret
  exact ⟨rfl, HK1.out, HK2.out⟩
end Go.Proofs.YtpafialojcidnaaGreatDoor
