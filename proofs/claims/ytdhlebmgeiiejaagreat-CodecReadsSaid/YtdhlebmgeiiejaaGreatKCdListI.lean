/- The code's codec: a list of this kind is laid. Written by wip/tools/gencdlist.py. -/
import Derived.Test.YtdhlebmgeiiejaaGreatKCdRow
import Derived.Test.YtdhlebmgeiiejaaGreatKCdPut
import Derived.Test.YtdhlebmgeiiejaaGreatKCdFn
namespace Go.Proofs.YtdhlebmgeiiejaaGreat
open Go.RowKit Go.Shelf Pz Cd
set_option linter.unusedVariables false
set_option linter.unusedSimpArgs false

theorem el_put_id : ∀ args w, (callFunc 68 args).run Tryz.prog w = .ok (.enter 68 args) w := enters_of Tryz.func68 (by kernel_rfl) rfl
theorem put_len_id (x : NKy) : (putID x).length ≤ 200 := by
  unfold putID
  split
  · have := rawID_len x; omega
  · exact Nat.zero_le _
theorem puts_len_id (l : List NKy) : (kID.puts l).length ≤ 200 * l.length := by
  induction l with
  | nil => simp [Kind.puts]
  | cons x r ih =>
    have := put_len_id x
    have e : kID.puts (x :: r) = putID x ++ kID.puts r := by simp [Kind.puts]; rfl
    rw [e, List.length_append, List.length_cons]
    omega
theorem puts_snoc_id (l : List NKy) (x : NKy) : kID.puts (l ++ [x]) = kID.puts l ++ putID x := by
  simp [Kind.puts, List.flatMap_append]
  rfl
set_option maxHeartbeats 16000000 in
set_option maxRecDepth 100000 in
theorem clist_id {A : Option Addr} {cap : Nat} {l : List NKy} {w : World} (R : RdI3 w w.heap.size A l) (hl : l.length ≤ 1000000) :
    Calls Tryz.prog 67 #[.func (.func 68) #[] #[], .slice A l.length cap] w fun e w' => e = .returned (.string ⟨(kID.putL l).toArray⟩) ∧ Below w.heap.size w w' := by
  have EP := el_put_id
  have FN := fun W => fn_put_id 68 W
  have hnew := bld_new w
  have hb0 : Below w.heap.size w (w.alloc (.cells #[.pointer none, .slice none 0 0] 90)) := (Below.refl _ _).alloc (Nat.le_refl _) _
  have C0 := Lib.hid fun W => clay1 (l.length : Int) ⟨by omega, by omega⟩ W
  have h0 := Oct.enc_length_le (l.length : Int)
  have HW := Lib.hid fun W (h : Bld w.heap.size w.heap.size [] W) hs => writeString_any w.heap.size w.heap.size [] ⟨(Oct.enc (l.length : Int)).toArray⟩ W h.out (by simp [ByteArray.size]; omega) hs
  have AT : Hid (∀ W, Below w.heap.size w W → ∀ j (hj : j < l.length), ∃ ga oa, A = some ⟨ga, oa, none⟩ ∧ (W.cell? ⟨ga, oa + j * 3, none⟩ = some (.int .i64 l[j].1) ∧ W.cell? ⟨ga, oa + j * 3 + 1, none⟩ = some (.int .i64 l[j].2.1) ∧ W.cell? ⟨ga, oa + j * 3 + 2, none⟩ = some (.int .i64 l[j].2.2))) := Lib.hid fun W hW j hj => by
    obtain ⟨ga, oa, e, _, k1⟩ := (R.below hW) j _ (List.getElem?_eq_getElem hj)
    exact ⟨ga, oa, e, k1⟩
  have PL : Hid (kID.putL l = Oct.enc (l.length : Int) ++ kID.puts (l.take l.length)) := Lib.hid (by rw [List.take_length]; rfl)
  clear R
  obtain ⟨bs, hbs⟩ : ∃ bs, bs = (w.alloc (.cells #[.pointer none, .slice none 0 0] 90)).heap.size := ⟨_, rfl⟩
  have hsz : w.heap.size ≤ (w.alloc (.cells #[.pointer none, .slice none 0 0] 90)).heap.size := hb0.size
  clear hbs bs
  go_enter Tryz.func67, Tryz.ntmps67
  go_upto_region 4 with fail
  generalize w.alloc (.cells #[.pointer none, .slice none 0 0] 90) = wa at *
  go_wp2_with fail
  with_reducible refine (C0.out _).mono ?_
  rintro e w1 ⟨rfl, b1⟩
  have hn1 : Bld w.heap.size w.heap.size [] w1 := Lib.hid (bld_below hnew.out b1)
  have hb1 := hb0.trans (b1.mono hsz)
  clear hnew hb0 b1 C0
  go_wp2_with fail
  refine (HW.out w1 hn1 hb1.size).mono ?_
  rintro e w2 ⟨rfl, h2, b2⟩
  have hS : Bld w.heap.size w.heap.size (Lib.byteCells (Oct.enc (l.length : Int) ++ kID.puts (l.take 0))) w2 := Lib.hid (by rw [List.take_zero, show kID.puts [] = [] from rfl, List.append_nil]; exact h2)
  have hbS := Lib.hid (hb1.trans (b2.mono (Nat.le_refl _)))
  clear h2 b2 hb1 hn1 HW hsz
  go_wp2
  go_loopw [22] (fun ix wr => ∃ k : Nat, k ≤ l.length ∧ ix = .int .i64 k ∧ Hid (Bld w.heap.size w.heap.size (Lib.byteCells (Oct.enc (l.length : Int) ++ kID.puts (l.take k))) wr) ∧ Hid (Below w.heap.size w wr)) (fun ix _ => l.length - (intOf ix).toNat)
  case atStart => exact ⟨0, Nat.zero_le _, rfl, Lib.hid hS, hbS⟩
  case round =>
    clear hS hbS
    obtain ⟨k, hk, rfl, HS, HB⟩ := hrel
    by_cases hkl : k < l.length
    · have t1 : (k : Int) < (l.length : Int) := by omega
      obtain ⟨ga, oa, rfl, c0, c1, c2⟩ := AT.out wr HB.out k hkl
      have CP : Hid (∀ W, Calls Tryz.prog 68 #[(.agg #[.int .i64 l[k].1, .int .i64 l[k].2.1, .int .i64 l[k].2.2])] W fun e w' => e = .returned (.string ⟨(putID l[k]).toArray⟩) ∧ Below W.heap.size W w') := Lib.hid fun W => cput_id l[k].1 l[k].2.1 l[k].2.2 W
      have hlen : (Lib.byteCells (Oct.enc (l.length : Int) ++ kID.puts (l.take k))).length + (putID l[k]).length ≤ 140737488355328 := by
        have h1 := puts_len_id (l.take k)
        have h2 := put_len_id l[k]
        have h3 : (l.take k).length ≤ l.length := by rw [List.length_take]; omega
        rw [Lib.byteCells_length, List.length_append]
        omega
      have NX : Hid (Lib.byteCells (Oct.enc (l.length : Int) ++ kID.puts (l.take k)) ++ Lib.byteCells (putID l[k]) = Lib.byteCells (Oct.enc (l.length : Int) ++ kID.puts (l.take (k + 1)))) := Lib.hid (by rw [List.take_succ_eq_append_getElem hkl, puts_snoc_id, ← Lib.byteCells_append, List.append_assoc])
      have HWR := Lib.hid fun W (h : Lib.IsBuilder 90 5 w.heap.size w.heap.size (Lib.byteCells (Oct.enc (l.length : Int) ++ kID.puts (l.take k))) W) hs => writeString_any w.heap.size w.heap.size _ ⟨(putID l[k]).toArray⟩ W h hlen hs
      have HS2 : Hid (∀ W, Below wr.heap.size wr W → Lib.IsBuilder 90 5 w.heap.size w.heap.size (Lib.byteCells (Oct.enc (l.length : Int) ++ kID.puts (l.take k))) W) := Lib.hid fun W hW => bld_below HS.out.out hW
      clear AT HS hlen PL
      generalize Lib.byteCells (Oct.enc (l.length : Int) ++ kID.puts (l.take k)) = acc at *
      generalize putID l[k] = ps at *
      generalize hx : l[k] = x at *
      clear hx
      obtain ⟨x0, x1, x2⟩ := x
      generalize l.length = n at *
      go_upto_region 8 with fail
      clear c0 c1 c2
      obtain ⟨⟨c0, c1, c2⟩, _⟩ := Bx.b3 (at1 wr (.cells #[.int .i64 x0, .int .i64 x1, .int .i64 x2] 29))
      have b1 := bel1 wr (.cells #[.int .i64 x0, .int .i64 x1, .int .i64 x2] 29)
      generalize wr.alloc (.cells #[.int .i64 x0, .int .i64 x1, .int .i64 x2] 29) = wb at *
      go_wp2_with fail
      with_reducible refine (CP.out _).mono ?_
      rintro e w3 ⟨rfl, b3⟩
      have b4 := b1.trans (b3.mono b1.size)
      have hs3 := Nat.le_trans HB.out.size b4.size
      clear c0 c1 c2 CP b1 b3
      go_wp2_with fail
      refine (HWR.out _ (HS2.out _ b4) hs3).mono ?_
      rintro e w4 ⟨rfl, h4, b5⟩
      have HS4 : Hid (Bld w.heap.size w.heap.size (Lib.byteCells (Oct.enc (n : Int) ++ kID.puts (l.take (k + 1)))) w4) := Lib.hid (Lib.hid (by rw [← NX.out]; exact h4))
      have HB4 := Lib.hid ((HB.out.trans (b4.mono HB.out.size)).trans b5)
      clear h4 b5 b4 HB HS2 HWR NX
      go_wp2
      go_roundw
      case rel => exact ⟨k + 1, by omega, by go_num, HS4, HB4⟩
      case measure => simp [intOf]; omega
    · obtain rfl : k = l.length := by omega
      have t1 : ¬ (l.length : Int) < (l.length : Int) := by omega
      have hs := HB.out.size
      have BS := Lib.hid (Tryz.Builder_String_any w.heap.size w.heap.size (Oct.enc (l.length : Int) ++ kID.puts (l.take l.length)) wr HS.out.out hs)
      clear AT HS hs
      generalize Oct.enc (l.length : Int) ++ kID.puts (l.take l.length) = acc at *
      generalize l.length = n at *
      go_wp2_with fail
      refine BS.out.mono ?_
      rintro e w1 ⟨rfl, b1⟩
      go_wp2
      go_ret
      rw [PL.out]
      exact ⟨rfl, HB.out.trans b1⟩
end Go.Proofs.YtdhlebmgeiiejaaGreat
