import Derived.Test.YtjgafakfpcgpjaaDoorParse
namespace Go.Proofs.YtjgafakfpcgpjaaDoor
open Go.RowKit

theorem parseT_long {l : List UInt8} (h : 60 < l.length) : parseT l = (1, 0, 0) := by unfold parseT parseR; rw [if_pos h]
/-- PARSE, of any pattern. -/
theorem parse_all (s : ByteArray) (w : World) (hn : NamesIn w) (hm : s.size ≤ maxLen) :
    Calls Tryd.prog 9 #[.string s] w fun e w' => (∃ ra rn rc, e = .returned (.tuple #[.agg #[.slice ra rn rc, .int .i64 (parseT s.data.toList).2.2], .int .i64 (parseT s.data.toList).1, .int .i64 (parseT s.data.toList).2.1])) ∧ Below w.heap.size w w' := by
  by_cases hs : s.size ≤ 60
  · exact parse_any s w hn hs
  · refine (parse_long s w (by omega) hm).mono ?_
    rintro e w' ⟨rfl, hb⟩
    rw [parseT_long (by rw [len_data]; omega)]
    exact ⟨⟨none, 0, 0, rfl⟩, hb⟩

/-- what Compile hands out -/
def CompPost (w w' : World) (l : List UInt8) (e : Ending) : Prop :=
  Below w.heap.size w w' ∧ ((parseT l).1 = 0 ∧ (∃ g ra rn rc, w.heap.size ≤ g ∧ e = .returned (.tuple #[.pointer (some ⟨g, 0, none⟩), .int .i64 0, .int .i64 0]) ∧ w'.cell? ⟨g, 0, none⟩ = some (.slice ra rn rc) ∧ w'.cell? ⟨g, 1, none⟩ = some (.int .i64 (parseT l).2.2)) ∨
    (parseT l).1 ≠ 0 ∧ e = .returned (.tuple #[.pointer none, .int .i64 (parseT l).1, .int .i64 (parseT l).2.1]))

set_option maxHeartbeats 800000 in
theorem compile_any (s : ByteArray) (w : World) (hn : NamesIn w) (hm : s.size ≤ maxLen) :
    Calls Tryd.prog 7 #[.string s] w fun e w' => CompPost w w' s.data.toList e := by
  have Hp := hd (parse_all s w hn hm)
  unfold CompPost
  obtain ⟨e0, at0, g0, hpe⟩ : ∃ e0 at0 g0, parseT s.data.toList = (e0, at0, g0) := ⟨_, _, _, rfl⟩
  rw [hpe] at Hp ⊢
  clear hn hpe
  simp only at Hp ⊢
  by_cases he : e0 = 0
  · subst he
    go_enter Tryd.func7, Tryd.ntmps7
    go_wp2_with fail
    refine Hp.out.mono ?_
    rintro e w2 ⟨⟨ra, rn, rc, rfl⟩, hb⟩
    have Hb := hd hb
    have hsz := hb.size
    clear hb
    go_wp2
    go_ret3
    refine ⟨(Hb.out.alloc hsz _).alloc (by simp; omega) _, .inl ⟨by first | rfl | trivial, w2.heap.size + 1, ra, rn, rc, by omega, rfl, by simp, by simp⟩⟩
  · have hen : ((e0 : Int) != 0) = true := by simp; omega
    go_enter Tryd.func7, Tryd.ntmps7
    go_wp2_with fail
    refine Hp.out.mono ?_
    rintro e w2 ⟨⟨ra, rn, rc, rfl⟩, hb⟩
    have Hb := hd hb
    have hsz := hb.size
    clear hb
    go_wp2
    go_ret3
    exact ⟨Hb.out.alloc hsz _, .inr ⟨he, rfl⟩⟩
end Go.Proofs.YtjgafakfpcgpjaaDoor
