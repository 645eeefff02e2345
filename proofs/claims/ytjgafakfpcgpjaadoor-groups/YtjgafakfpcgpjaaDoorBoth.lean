/- Both readers at once. -/
import Derived.Test.YtjgafakfpcgpjaaDoorRRead
namespace Go.Proofs.YtjgafakfpcgpjaaDoor
open Go.RowKit

theorem ClsW.below {w w' : World} (h : ClsW w) (hb : Below w.heap.size w w') : ClsW w' := by
  obtain ⟨c, t, fr, h1, h2⟩ := h
  refine ⟨c, t, fr, (hb.block _ ?_).trans h1, h2⟩
  rcases Nat.lt_or_ge 0 w.heap.size with h | h
  · exact h
  · rw [Array.getElem?_eq_none h] at h1; cases h1
/-- what both come to -/
def BothPost (w w' : World) (l : List UInt8) (e : Ending) : Prop :=
  Below w.heap.size w w' ∧ ((∃ g h, e = .returned (.tuple #[.pointer (some ⟨g, 0, none⟩), .pointer (some ⟨h, 0, none⟩), .bool true]) ∧ w'.cell? ⟨g, 1, none⟩ = some (.int .i64 (parseT l).2.2) ∧ w'.cell? ⟨h, 1, none⟩ = some (.int .i64 (parseT l).2.2)) ∨
    e = .returned (.tuple #[.pointer none, .pointer none, .bool true]))

set_option maxHeartbeats 1600000 in
theorem both_any (s : ByteArray) (w : World) (hn : NamesIn w) (hc : ClsW w) (hm : s.size ≤ maxLen) :
    Calls Tryd.prog 5 #[.string s] w fun e w' => BothPost w w' s.data.toList e := by
  have Hp := hd (compile_any s w hn hm)
  have Hc := hd hc
  clear hn hc
  go_enter Tryd.func5, Tryd.ntmps5
  go_wp2_with fail
  refine Hp.out.mono ?_
  rintro e w2 ⟨hb, hp⟩
  have Hr := hd (read_all s w2 (Hc.out.below hb) hm)
  rcases hp with ⟨h0, g, ra, rn, rc, hg, rfl, _, hg1⟩ | ⟨h0, rfl⟩
  · have hgl : g < w2.heap.size := World.block_lt_of_cell? w2 _ hg1
    have Hb := hd hb
    have Hg1 := hd hg1
    clear hb hg1
    go_wp2_with fail
    refine Hr.out.mono ?_
    rintro e w3 ⟨hb3, hp3⟩
    rcases hp3 with ⟨_, h, _, rfl, hh⟩ | ⟨h1, rfl⟩
    · have HF : Hid (BothPost w w3 s.data.toList (.returned (.tuple #[.pointer (some ⟨g, 0, none⟩), .pointer (some ⟨h, 0, none⟩), .bool true]))) :=
        hd ⟨Hb.out.trans (hb3.mono Hb.out.size), .inl ⟨g, h, rfl, (hb3.cell hgl).trans Hg1.out, hh⟩⟩
      clear hb3 hh h0
      go_wp2
      go_ret3
      exact HF.out
    · exact absurd h0 h1
  · have Hb := hd hb
    clear hb
    go_wp2_with fail
    refine Hr.out.mono ?_
    rintro e w3 ⟨hb3, hp3⟩
    rcases hp3 with ⟨h1, h, _, rfl, hh⟩ | ⟨h1, rfl⟩
    · exact absurd h1 h0
    · have HF : Hid (BothPost w w3 s.data.toList (.returned (.tuple #[.pointer none, .pointer none, .bool true]))) :=
        hd ⟨Hb.out.trans (hb3.mono Hb.out.size), .inr rfl⟩
      clear hb3 h0 h1
      go_wp2
      go_ret3
      exact HF.out

set_option maxHeartbeats 800000 in
theorem compiles_any (s : ByteArray) (w : World) (hn : NamesIn w) (hc : ClsW w) (hm : s.size ≤ maxLen) :
    Calls Tryd.prog 3 #[.string s] w fun e w' => e = .returned (.bool true) ∧ Below w.heap.size w w' := by
  have Hp := hd (both_any s w hn hc hm)
  clear hn hc
  go_enter Tryd.func3, Tryd.ntmps3
  go_wp2_with fail
  refine Hp.out.mono ?_
  rintro e w2 ⟨hb, hp⟩
  have Hb := hd hb
  clear hb
  rcases hp with ⟨g, h, rfl, _, _⟩ | rfl
  all_goals
    go_wp2
    go_ret
    exact ⟨rfl, Hb.out⟩

set_option maxHeartbeats 800000 in
theorem pgroups_any {g n : Nat} {w : World} (h : w.cell? ⟨g, 1, none⟩ = some (.int .i64 n)) :
    Calls Tryd.prog 6 #[.pointer (some ⟨g, 0, none⟩)] w fun e w' => e = .returned (.int .i64 n) ∧ w' = w := by
  go_enter Tryd.func6, Tryd.ntmps6
  go_wp2
  go_ret
  exact ⟨rfl, rfl⟩

set_option maxHeartbeats 800000 in
theorem groups_any (s : ByteArray) (w : World) (hn : NamesIn w) (hc : ClsW w) (hm : s.size ≤ maxLen) :
    Calls Tryd.prog 4 #[.string s] w fun e w' => e = .returned (.bool true) ∧ Below w.heap.size w w' := by
  have Hp := hd (both_any s w hn hc hm)
  clear hn hc
  go_enter Tryd.func4, Tryd.ntmps4
  go_wp2_with fail
  refine Hp.out.mono ?_
  rintro e w2 ⟨hb, hp⟩
  have Hb := hd hb
  clear hb
  rcases hp with ⟨g, h, rfl, h1, h2⟩ | rfl
  · go_wp2_with fail
    go_quiet ((go_at_call 6; exact Calls.quiet_of_same (pgroups_any (by first | exact h1 | simpa using h1))))
    go_wp2
    go_ret
    exact ⟨rfl, Hb.out.os, Hb.out.tape, Hb.out.output, Hb.out.size, Hb.out.block⟩
  · go_wp2_with fail
    go_quiet (fail)
    go_wp2
    go_ret
    exact ⟨rfl, Hb.out.os, Hb.out.tape, Hb.out.output, Hb.out.size, Hb.out.block⟩
end Go.Proofs.YtjgafakfpcgpjaaDoor
