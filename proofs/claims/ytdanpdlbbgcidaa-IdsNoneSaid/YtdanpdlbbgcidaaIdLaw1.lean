/- The law IdsNone, walked. -/
import Derived.Test.YtdanpdlbbgcidaaIdNext
import Derived.Test.YtdanpdlbbgcidaaIdOpen
namespace Go.Proofs.Ytdanpdlbbgcidaa
open Go.RowKit Ids
set_option linter.unusedVariables false

set_option maxHeartbeats 8000000 in
set_option maxRecDepth 100000 in
theorem law_none (w : World) (k i g : Int) (_ : Fits k ∧ Fits i ∧ Fits g) : Calls Try.prog 8 #[.agg #[.int .i64 k, .int .i64 i, .int .i64 g]] w fun e w' => e = .returned (.bool true) ∧ Below w.heap.size w w' := by
  have a1 := at1 w (.cells #[.int .i64 k, .int .i64 i, .int .i64 g] 33)
  have b1 := bel1 w (.cells #[.int .i64 k, .int .i64 i, .int .i64 g] 33)
  obtain ⟨⟨c0, c1, c2⟩, _⟩ := box3 a1
  go_enter Try.func8, Try.ntmps8
  go_wp2_with (first
    | (go_at_call 22; refine (head_none (gap_nil _ _)).mono ?_; rintro e w2 ⟨rfl, hb2⟩; have a2 := (hb2.block _ (heap_lt a1)).trans a1; have b2 := b1.trans (hb2.mono b1.size); clear c0 c1 c2 hb2 a1 b1; obtain ⟨⟨c0, c1, c2⟩, _⟩ := box3 a2)
    | (go_at_call 23; refine (issue_none (gap_nil _ _)).mono ?_; rintro e w3 ⟨rfl, hb3⟩; have a3 := (hb3.block _ (heap_lt a2)).trans a2; have b3 := b2.trans (hb3.mono b2.size); clear c0 c1 c2 hb3 a2 b2;
        have x4 := at1 w3 (.cells #[.int .i64 0, .int .i64 0, .int .i64 0] 33); have l4 := bel1 w3 (.cells #[.int .i64 0, .int .i64 0, .int .i64 0] 33); have a4 := (l4.block _ (heap_lt a3)).trans a3; have b4 := b3.trans (l4.mono b3.size); clear a3 b3 l4;
        obtain ⟨⟨c0, c1, c2⟩, _⟩ := box3 a4; obtain ⟨⟨z0, z1, z2⟩, _⟩ := box3 x4)
    | (go_at_call 24; refine (gen_none (miss_nil _ _ _)).mono ?_; rintro e w' ⟨rfl, rfl⟩)
    | (go_at_call 16; refine (reserve_none (miss_nil _ _ _)).mono ?_; rintro e w' ⟨rfl, rfl⟩; clear z0 z1 z2 x4)
    | (go_at_call 17; refine (take_none ⟨none, gap_nil _ _, .inl (fun W _ => sat_nil W _)⟩).mono ?_; rintro e w5 ⟨rfl, hb5⟩; have a5 := (hb5.block _ (heap_lt a4)).trans a4; have b5 := b4.trans (hb5.mono b4.size); clear c0 c1 c2 hb5 a4 b4; obtain ⟨⟨c0, c1, c2⟩, _⟩ := box3 a5)
    | (go_at_call 18; refine (free_none ⟨none, gap_nil _ _, .inl (fun W _ => sat_nil W _)⟩).mono ?_; rintro e w6 ⟨rfl, hb6⟩; have a6 := (hb6.block _ (heap_lt a5)).trans a5; have b6 := b5.trans (hb6.mono b5.size); clear c0 c1 c2 hb6 a5 b5; obtain ⟨⟨c0, c1, c2⟩, _⟩ := box3 a6)
    | (go_at_call 20; refine (alive_none _ (miss_nil _ _ _)).mono ?_; rintro e w7 ⟨rfl, hb7⟩; have b7 := b6.trans (hb7.mono b6.size); clear c0 c1 c2 hb7 a6 b6)
    | (go_at_call 19; refine (lapse_nil _).mono ?_; rintro e w' ⟨rfl, rfl⟩)
    | (go_at_call 21; refine (list_nil _).mono ?_; rintro e w' ⟨rfl, rfl⟩)
    | (go_at_call 11; refine (awake_any _).mono ?_; rintro e w8 ⟨rfl, hb8⟩; have b8 := b7.trans (hb8.mono b7.size); clear hb8 b7))
  go_ret
  exact ⟨rfl, b8⟩
end Go.Proofs.Ytdanpdlbbgcidaa
