/- The code's codec: a list of this kind is laid. Written by wip/tools/gencdlist.py. -/
import Derived.Test.YtdhlebmgeiiejaaGreatKCdRow
import Derived.Test.YtdhlebmgeiiejaaGreatKCdPut
import Derived.Test.YtdhlebmgeiiejaaGreatKCdFn
namespace Go.Proofs.YtdhlebmgeiiejaaGreat
open Go.RowKit Go.Shelf Pz Cd
set_option linter.unusedVariables false
set_option linter.unusedSimpArgs false

theorem el_put_b : ∀ args w, (callFunc 17 args).run Tryz.prog w = .ok (.enter 17 args) w := enters_of Tryz.func17 (by kernel_rfl) rfl
theorem put_len_b (x : Bn) : (putB x).length ≤ 200 := by
  rw [putB_is]
  split
  · unfold rawB; rw [List.length_append]; have := rawID_len x.id; have := rest_len x; omega
  · exact Nat.zero_le _
theorem puts_len_b (l : List Bn) : (kB.puts l).length ≤ 200 * l.length := by
  induction l with
  | nil => simp [Kind.puts]
  | cons x r ih =>
    have := put_len_b x
    have e : kB.puts (x :: r) = putB x ++ kB.puts r := by simp [Kind.puts]; rfl
    rw [e, List.length_append, List.length_cons]
    omega
theorem puts_snoc_b (l : List Bn) (x : Bn) : kB.puts (l ++ [x]) = kB.puts l ++ putB x := by
  simp [Kind.puts, List.flatMap_append]
  rfl
set_option maxHeartbeats 16000000 in
set_option maxRecDepth 100000 in
theorem clist_b {A : Option Addr} {cap : Nat} {l : List Bn} {w : World} (R : RdB w w.heap.size A l) (hl : l.length ≤ 1000000) :
    Calls Tryz.prog 16 #[.func (.func 17) #[] #[], .slice A l.length cap] w fun e w' => e = .returned (.string ⟨(kB.putL l).toArray⟩) ∧ Below w.heap.size w w' := by
  have EP := el_put_b
  have FN := fun W => fn_put_b 17 W
  have hnew := bld_new w
  have hb0 : Below w.heap.size w (w.alloc (.cells #[.pointer none, .slice none 0 0] 90)) := (Below.refl _ _).alloc (Nat.le_refl _) _
  have C0 := Lib.hid fun W => clay1 (l.length : Int) ⟨by omega, by omega⟩ W
  have h0 := Oct.enc_length_le (l.length : Int)
  have HW := Lib.hid fun W (h : Bld w.heap.size w.heap.size [] W) hs => writeString_any w.heap.size w.heap.size [] ⟨(Oct.enc (l.length : Int)).toArray⟩ W h.out (by simp [ByteArray.size]; omega) hs
  have AT : Hid (∀ W, Below w.heap.size w W → ∀ j (hj : j < l.length), ∃ ga oa, A = some ⟨ga, oa, none⟩ ∧ (W.cell? ⟨ga, oa + j * 11, none⟩ = some (.int .i64 l[j].s) ∧ W.cell? ⟨ga, oa + j * 11 + 1, none⟩ = some (.int .i64 l[j].i) ∧ W.cell? ⟨ga, oa + j * 11 + 2, none⟩ = some (.int .i64 l[j].g) ∧ W.cell? ⟨ga, oa + j * 11 + 3, none⟩ = some (.int .i64 l[j].m) ∧ W.cell? ⟨ga, oa + j * 11 + 4, none⟩ = some (.int .i64 l[j].x) ∧ W.cell? ⟨ga, oa + j * 11 + 5, none⟩ = some (.int .i64 l[j].y) ∧ W.cell? ⟨ga, oa + j * 11 + 6, none⟩ = some (.int .i64 l[j].vx) ∧ W.cell? ⟨ga, oa + j * 11 + 7, none⟩ = some (.int .i64 l[j].vy) ∧ W.cell? ⟨ga, oa + j * 11 + 8, none⟩ = some (.int .i64 l[j].h) ∧ W.cell? ⟨ga, oa + j * 11 + 9, none⟩ = some (.int .i64 l[j].p) ∧ W.cell? ⟨ga, oa + j * 11 + 10, none⟩ = some (.int .i64 l[j].l))) := Lib.hid fun W hW j hj => by
    obtain ⟨ga, oa, e, _, k1⟩ := (R.below hW) j _ (List.getElem?_eq_getElem hj)
    exact ⟨ga, oa, e, k1⟩
  have PL : Hid (kB.putL l = Oct.enc (l.length : Int) ++ kB.puts (l.take l.length)) := Lib.hid (by rw [List.take_length]; rfl)
  clear R
  obtain ⟨bs, hbs⟩ : ∃ bs, bs = (w.alloc (.cells #[.pointer none, .slice none 0 0] 90)).heap.size := ⟨_, rfl⟩
  have hsz : w.heap.size ≤ (w.alloc (.cells #[.pointer none, .slice none 0 0] 90)).heap.size := hb0.size
  clear hbs bs
  go_enter Tryz.func16, Tryz.ntmps16
  go_upto_region 4 with fail
  generalize w.alloc (.cells #[.pointer none, .slice none 0 0] 90) = wa at *
  go_wp2_with fail
  with_reducible refine (C0.out _).mono ?_
  rintro e w1 ⟨rfl, b1⟩
  have hn1 : Bld w.heap.size w.heap.size [] w1 := Lib.hid (bld_below hnew.out b1)
  have hb1 := hb0.trans (b1.mono hsz)
  clear hnew hb0 b1 C0
  go_wp2_with fail
  refine (HW.out w1 hn1 hb1.size).mono ?_
  rintro e w2 ⟨rfl, h2, b2⟩
  have hS : Bld w.heap.size w.heap.size (Lib.byteCells (Oct.enc (l.length : Int) ++ kB.puts (l.take 0))) w2 := Lib.hid (by rw [List.take_zero, show kB.puts [] = [] from rfl, List.append_nil]; exact h2)
  have hbS := Lib.hid (hb1.trans (b2.mono (Nat.le_refl _)))
  clear h2 b2 hb1 hn1 HW hsz
  go_wp2
  go_loopw [22] (fun ix wr => ∃ k : Nat, k ≤ l.length ∧ ix = .int .i64 k ∧ Hid (Bld w.heap.size w.heap.size (Lib.byteCells (Oct.enc (l.length : Int) ++ kB.puts (l.take k))) wr) ∧ Hid (Below w.heap.size w wr)) (fun ix _ => l.length - (intOf ix).toNat)
  case atStart => exact ⟨0, Nat.zero_le _, rfl, Lib.hid hS, hbS⟩
  case round =>
    clear hS hbS
    obtain ⟨k, hk, rfl, HS, HB⟩ := hrel
    by_cases hkl : k < l.length
    · have t1 : (k : Int) < (l.length : Int) := by omega
      obtain ⟨ga, oa, rfl, c0, c1, c2, c3, c4, c5, c6, c7, c8, c9, c10⟩ := AT.out wr HB.out k hkl
      have CP := Lib.hid fun W => cput_b l[k] W
      have hlen : (Lib.byteCells (Oct.enc (l.length : Int) ++ kB.puts (l.take k))).length + (putB l[k]).length ≤ 140737488355328 := by
        have h1 := puts_len_b (l.take k)
        have h2 := put_len_b l[k]
        have h3 : (l.take k).length ≤ l.length := by rw [List.length_take]; omega
        rw [Lib.byteCells_length, List.length_append]
        omega
      have NX : Hid (Lib.byteCells (Oct.enc (l.length : Int) ++ kB.puts (l.take k)) ++ Lib.byteCells (putB l[k]) = Lib.byteCells (Oct.enc (l.length : Int) ++ kB.puts (l.take (k + 1)))) := Lib.hid (by rw [List.take_succ_eq_append_getElem hkl, puts_snoc_b, ← Lib.byteCells_append, List.append_assoc])
      have HWR := Lib.hid fun W (h : Lib.IsBuilder 90 5 w.heap.size w.heap.size (Lib.byteCells (Oct.enc (l.length : Int) ++ kB.puts (l.take k))) W) hs => writeString_any w.heap.size w.heap.size _ ⟨(putB l[k]).toArray⟩ W h hlen hs
      have HS2 : Hid (∀ W, Below wr.heap.size wr W → Lib.IsBuilder 90 5 w.heap.size w.heap.size (Lib.byteCells (Oct.enc (l.length : Int) ++ kB.puts (l.take k))) W) := Lib.hid fun W hW => bld_below HS.out.out hW
      clear AT HS hlen PL
      generalize Lib.byteCells (Oct.enc (l.length : Int) ++ kB.puts (l.take k)) = acc at *
      generalize putB l[k] = ps at *
      generalize hx : l[k] = x at *
      clear hx
      obtain ⟨xs, xi, xg, xm, xx, xy, xvx, xvy, xh, xp, xl⟩ := x
      simp only [Bn.val] at *
      generalize l.length = n at *
      go_upto_region 8 with fail
      clear c0 c1 c2 c3 c4 c5 c6 c7 c8 c9 c10
      obtain ⟨⟨c0, c1, c2, c3, c4, c5, c6, c7, c8, c9, c10⟩, _⟩ := Bx.b11 (at1 wr (.cells #[.int .i64 xs, .int .i64 xi, .int .i64 xg, .int .i64 xm, .int .i64 xx, .int .i64 xy, .int .i64 xvx, .int .i64 xvy, .int .i64 xh, .int .i64 xp, .int .i64 xl] 34))
      have b1 := bel1 wr (.cells #[.int .i64 xs, .int .i64 xi, .int .i64 xg, .int .i64 xm, .int .i64 xx, .int .i64 xy, .int .i64 xvx, .int .i64 xvy, .int .i64 xh, .int .i64 xp, .int .i64 xl] 34)
      generalize wr.alloc (.cells #[.int .i64 xs, .int .i64 xi, .int .i64 xg, .int .i64 xm, .int .i64 xx, .int .i64 xy, .int .i64 xvx, .int .i64 xvy, .int .i64 xh, .int .i64 xp, .int .i64 xl] 34) = wb at *
      go_wp2_with fail
      with_reducible refine (CP.out _).mono ?_
      rintro e w3 ⟨rfl, b3⟩
      have b4 := b1.trans (b3.mono b1.size)
      have hs3 := Nat.le_trans HB.out.size b4.size
      clear c0 c1 c2 c3 c4 c5 c6 c7 c8 c9 c10 CP b1 b3
      go_wp2_with fail
      refine (HWR.out _ (HS2.out _ b4) hs3).mono ?_
      rintro e w4 ⟨rfl, h4, b5⟩
      have HS4 : Hid (Bld w.heap.size w.heap.size (Lib.byteCells (Oct.enc (n : Int) ++ kB.puts (l.take (k + 1)))) w4) := Lib.hid (Lib.hid (by rw [← NX.out]; exact h4))
      have HB4 := Lib.hid ((HB.out.trans (b4.mono HB.out.size)).trans b5)
      clear h4 b5 b4 HB HS2 HWR NX
      go_wp2
      go_roundw
      case rel => exact ⟨k + 1, by omega, by go_num, HS4, HB4⟩
      case measure => simp [intOf]; omega
    · obtain rfl : k = l.length := by omega
      have t1 : ¬ (l.length : Int) < (l.length : Int) := by omega
      have hs := HB.out.size
      have BS := Lib.hid (Tryz.Builder_String_any w.heap.size w.heap.size (Oct.enc (l.length : Int) ++ kB.puts (l.take l.length)) wr HS.out.out hs)
      clear AT HS hs
      generalize Oct.enc (l.length : Int) ++ kB.puts (l.take l.length) = acc at *
      generalize l.length = n at *
      go_wp2_with fail
      refine BS.out.mono ?_
      rintro e w1 ⟨rfl, b1⟩
      go_wp2
      go_ret
      rw [PL.out]
      exact ⟨rfl, HB.out.trans b1⟩
end Go.Proofs.YtdhlebmgeiiejaaGreat
