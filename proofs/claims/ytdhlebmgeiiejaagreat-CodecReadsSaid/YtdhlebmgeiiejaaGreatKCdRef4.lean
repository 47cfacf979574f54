/- The document's codec: a name is taken. -/
import Derived.Test.YtdhlebmgeiiejaaGreatKCdRef3
import Derived.Test.YtdhlebmgeiiejaaGreatKCdRx
import Derived.Test.YtdhlebmgeiiejaaGreatKRd
namespace Go.Proofs.YtdhlebmgeiiejaaGreat
open Go.RowKit Pz Cd
set_option linter.unusedVariables false
set_option linter.unusedSimpArgs false

abbrev RT : TypeId := 27
abbrev RQ := RX RT
abbrev TS := TSX RT
theorem rtake_int {b : Nat} {w W : World} {q : Rr} (h : RQ b w q W) : Calls Tryz.prog 39 #[.pointer (some ⟨b, 0, none⟩)] W fun e W' => e = .returned (.int .i64 (tInt q).1) ∧ RQ b w (tInt q).2 W' ∧ W.grownBy W' (some b) := by
  refine (rrInt_any b q.s q.bad W h.len h.ok h.rd).mono ?_
  rintro e W' ⟨rfl, h1, h2⟩
  exact ⟨rfl, h.step h1 (tInt_ok q h.ok) (tInt_len q) h2, h2⟩
set_option maxHeartbeats 4000000 in
theorem rbad_any {b : Nat} {w W : World} {q : Rr} (h : RQ b w q W) : Calls Tryz.prog 41 #[.pointer (some ⟨b, 0, none⟩)] W fun e W' => e = .returned (.tuple #[]) ∧ RQ b w Rr.no W' ∧ W.grownBy W' (some b) := by
  have c0 := h.rd.c0
  have c1 := h.rd.c1
  have f0 := h.rd.f 0
  have f1 := h.rd.f 1
  have H := Lib.hid h
  clear h
  go_enter Tryz.func41, Tryz.ntmps41
  go_wp2
  go_end0
  have g : W.grownBy ((W.setCell ⟨b, 1, none⟩ (.bool true)).setCell ⟨b, 0, none⟩ (.string ⟨([] : List UInt8).toArray⟩)) (some b) :=
    only_set (p := ⟨b, 0, none⟩) (only_set (p := ⟨b, 1, none⟩) (World.grownBy.refl W _) (.inl rfl) _) (.inl rfl) _
  exact ⟨rfl, H.out.step (q' := Rr.no) ((Rdr.set1 H.out.rd true).set0 []) (fun _ => rfl) (by simp) g, g⟩
set_option maxHeartbeats 8000000 in
set_option maxRecDepth 100000 in
theorem rtakeid_any {b : Nat} {w : World} {q : Rr} (h : RQ b w q w) : Calls Tryz.prog 10 #[.pointer (some ⟨b, 0, none⟩)] w fun e W' => e = .returned (.agg #[.int .i64 (takeID q).1.1, .int .i64 (takeID q).1.2.1, .int .i64 (takeID q).1.2.2]) ∧ RQ b w (takeID q).2 W' := by
  have C1 := Lib.hid fun W (hW : RQ b w q W) => rtake_int hW
  have C2 := Lib.hid fun W (hW : RQ b w (tInt q).2 W) => rtake_int hW
  have C3 := Lib.hid fun W (hW : RQ b w (tInt (tInt q).2).2 W) => rtake_int hW
  have HT : takeID q = if (tInt (tInt (tInt q).2).2).2.bad || !okID ((tInt q).1, (tInt (tInt q).2).1, (tInt (tInt (tInt q).2).2).1) then ((0, 0, 0), Rr.no) else (((tInt q).1, (tInt (tInt q).2).1, (tInt (tInt (tInt q).2).2).1), (tInt (tInt (tInt q).2).2).2) := rfl
  rw [HT]
  clear HT
  generalize (tInt (tInt (tInt q).2).2).1 = n3 at *
  generalize (tInt (tInt (tInt q).2).2).2 = q3 at *
  generalize (tInt (tInt q).2).1 = n2 at *
  generalize (tInt (tInt q).2).2 = q2 at *
  generalize (tInt q).1 = n1 at *
  generalize (tInt q).2 = q1 at *
  have R1 := Lib.hid fun W => rightid_any n1 n2 n3 W
  obtain ⟨r, er⟩ : ∃ r, rightID n1 n2 n3 = r := ⟨_, rfl⟩
  have er2 : okID (n1, n2, n3) = r := er
  rw [er] at R1
  rw [er2]
  clear er er2
  have H := Lib.hid (TSX.start h)
  clear h
  go_enter Tryz.func10, Tryz.ntmps10
  go_wp2_with fail
  refine (C1.out _ H.out.rq).mono ?_
  rintro e w1 ⟨rfl, r1, g1⟩
  replace H := Lib.hid (H.out.call r1 g1)
  clear r1 g1
  obtain ⟨⟨k0, k1, k2⟩, ⟨f0, f1, f2⟩⟩ := Bx.b3 H.out.own
  go_wp2_with fail
  clear k0 k1 k2 f0 f1 f2
  replace H := Lib.hid (H.out.set 0 n1 rfl)
  generalize w1.setCell ⟨w.heap.size + 1, 0, none⟩ (.int .i64 n1) = v1 at *
  refine (C2.out _ H.out.rq).mono ?_
  rintro e w2 ⟨rfl, r1, g1⟩
  replace H := Lib.hid (H.out.call r1 g1)
  clear r1 g1
  obtain ⟨⟨k0, k1, k2⟩, ⟨f0, f1, f2⟩⟩ := Bx.b3 H.out.own
  go_wp2_with fail
  clear k0 k1 k2 f0 f1 f2
  replace H := Lib.hid (H.out.set 1 n2 rfl)
  generalize w2.setCell ⟨w.heap.size + 1, 1, none⟩ (.int .i64 n2) = v2 at *
  refine (C3.out _ H.out.rq).mono ?_
  rintro e w3 ⟨rfl, r1, g1⟩
  replace H := Lib.hid (H.out.call r1 g1)
  clear r1 g1
  obtain ⟨⟨k0, k1, k2⟩, ⟨f0, f1, f2⟩⟩ := Bx.b3 H.out.own
  go_upto_region 5 with fail
  clear k0 k1 k2 f0 f1 f2
  replace H := Lib.hid (H.out.set 2 n3 rfl)
  generalize w3.setCell ⟨w.heap.size + 1, 2, none⟩ (.int .i64 n3) = v3 at *
  have QB := H.out.rq.rd.c1
  obtain ⟨s3, b3⟩ := q3
  simp only at QB
  obtain ⟨⟨k0, k1, k2⟩, _⟩ := Bx.b3 H.out.own
  clear C1 C2 C3
  have BAD := Lib.hid fun W (hW : RQ b w ⟨s3, b3⟩ W) => rbad_any hW
  cases b3 with
  | true =>
    clear k0 k1 k2
    go_wp2_with fail
    refine (BAD.out _ H.out.rq).mono ?_
    rintro e w4 ⟨rfl, r1, g1⟩
    replace H := Lib.hid (H.out.call r1 g1)
    clear r1 g1 QB
    obtain ⟨⟨k0, k1, k2⟩, ⟨f0, f1, f2⟩⟩ := Bx.b3 H.out.res
    have HF := Lib.hid (H.out.fin 0 0 0)
    go_wp2
    obtain ⟨⟨p0, p1, p2⟩, hq⟩ := HF.out
    exact bodyPost_ret (v := .agg #[.int .i64 0, .int .i64 0, .int .i64 0]) (by simp [results, Tryz.results10, go_sem, p0, p1, p2]) rfl ⟨rfl, hq⟩
  | false =>
    cases r with
    | false =>
      go_wp2_with fail
      refine (R1.out _).mono ?_
      rintro e w4 ⟨rfl, hb⟩
      clear k0 k1 k2 QB
      replace H := Lib.hid (H.out.below hb)
      clear hb
      go_wp2_with fail
      refine (BAD.out _ H.out.rq).mono ?_
      rintro e w5 ⟨rfl, r1, g1⟩
      replace H := Lib.hid (H.out.call r1 g1)
      clear r1 g1
      obtain ⟨⟨k0, k1, k2⟩, ⟨f0, f1, f2⟩⟩ := Bx.b3 H.out.res
      have HF := Lib.hid (H.out.fin 0 0 0)
      go_wp2
      obtain ⟨⟨p0, p1, p2⟩, hq⟩ := HF.out
      exact bodyPost_ret (v := .agg #[.int .i64 0, .int .i64 0, .int .i64 0]) (by simp [results, Tryz.results10, go_sem, p0, p1, p2]) rfl ⟨rfl, hq⟩
    | true =>
      go_wp2_with fail
      refine (R1.out _).mono ?_
      rintro e w4 ⟨rfl, hb⟩
      clear k0 k1 k2 QB
      replace H := Lib.hid (H.out.below hb)
      clear hb
      obtain ⟨⟨k0, k1, k2⟩, ⟨f0, f1, f2⟩⟩ := Bx.b3 H.out.res
      obtain ⟨⟨m0, m1, m2⟩, _⟩ := Bx.b3 H.out.own
      have HF := Lib.hid (H.out.fin n1 n2 n3)
      go_wp2
      obtain ⟨⟨p0, p1, p2⟩, hq⟩ := HF.out
      exact bodyPost_ret (v := .agg #[.int .i64 n1, .int .i64 n2, .int .i64 n3]) (by simp [results, Tryz.results10, go_sem, p0, p1, p2]) rfl ⟨rfl, hq⟩
end Go.Proofs.YtdhlebmgeiiejaaGreat
