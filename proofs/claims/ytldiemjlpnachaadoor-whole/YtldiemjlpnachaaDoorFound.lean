import Derived.Test.YtldiemjlpnachaaDoorWf
namespace Go.Proofs.YtldiemjlpnachaaDoor
open Go.RowKit

/-- what Find answers -/
def FindRes (n : Nat) (M : Nat → Nat → Prop) (fr : Int) (fd : Bool) (a b : Nat) : Prop := ((0 ≤ fr ∧ fr ≤ n) → Best n M fr.toNat fd a b) ∧ (¬ (0 ≤ fr ∧ fr ≤ n) → fd = false ∧ a = 0 ∧ b = 0)

set_option maxHeartbeats 1600000 in
/-- FOUND: a pattern finds just that. -/
theorem found_any (p s : ByteArray) (fr i j : Int) (w : World) (hn : NamesIn w) (hm : p.size ≤ maxLen) (hs : s.size ≤ 1000000000) (hp : (parseT p.data.toList).1 = 0) (hr : refT0 p.data.toList = [])
    (hx : ∀ fd a b, FindRes s.data.toList.length (fun u v => MtRow s.data.toList ((itsT p.data.toList).map (·.3)) u v) fr fd a b → if i < 0 then fd = false ∧ a = 0 ∧ b = 0 else fd = true ∧ (a : Int) = i ∧ (b : Int) = j) :
    Calls Tryd.prog 24 #[.string p, .string s, .int .i64 fr, .int .i64 i, .int .i64 j] w fun e w' => e = .returned (.bool true) ∧ Below w.heap.size w w' := by
  have Hc := hd (compile_any p w hn hm)
  have Hx := hd hx
  have Hp := hd hp
  have Hr := hd hr
  clear hn hx hp hr
  go_enter Tryd.func24, Tryd.ntmps24
  go_wp2_with fail
  refine Hc.out.mono ?_
  rintro e w2 ⟨hb, hh⟩
  rcases hh with ⟨_, g, hg, rfl, hpi⟩ | ⟨he, rfl⟩
  · have Hf := hd (pfind_any w w2 g _ s fr Hp.out hpi Hr.out hs)
    have Hb := hd hb
    clear hb hpi hg
    go_wp2_with fail
    refine Hf.out.mono ?_
    rintro e w3 ⟨hb3, fd, a, b, rfl, h1, h2⟩
    have hres := Hx.out fd a b ⟨h1, h2⟩
    have Hb3 := hd (Hb.out.trans (hb3.mono Hb.out.size))
    clear h1 h2 hb3
    by_cases hi : i < 0
    · rw [if_pos hi] at hres
      obtain ⟨rfl, rfl, rfl⟩ := hres
      go_wp2
      go_ret
      exact ⟨rfl, Hb3.out⟩
    · rw [if_neg hi] at hres
      obtain ⟨rfl, rfl, rfl⟩ := hres
      go_wp2
      go_ret
      exact ⟨rfl, Hb3.out⟩
  · exact absurd Hp.out he

/-- the same, the texts given by their bytes -/
theorem found_at (p s : ByteArray) (pl sl : List UInt8) (fr i j : Int) (w : World) (hpl : p.data.toList = pl) (hsl : s.data.toList = sl) (hn : NamesIn w) (hm : pl.length ≤ maxLen) (hs : sl.length ≤ 1000000000) (hp : (parseT pl).1 = 0) (hr : refT0 pl = [])
    (hx : ∀ fd a b, FindRes sl.length (fun u v => MtRow sl ((itsT pl).map (·.3)) u v) fr fd a b → if i < 0 then fd = false ∧ a = 0 ∧ b = 0 else fd = true ∧ (a : Int) = i ∧ (b : Int) = j) :
    Calls Tryd.prog 24 #[.string p, .string s, .int .i64 fr, .int .i64 i, .int .i64 j] w fun e w' => e = .returned (.bool true) ∧ Below w.heap.size w w' := by
  subst hpl hsl
  rw [len_data] at hm hs
  exact found_any p s fr i j w hn hm hs hp hr hx

set_option maxHeartbeats 800000 in
theorem pick_any (c n : Int) (w : World) (hc0 : -9223372036854775808 ≤ c) (hc1 : c ≤ 9223372036854775807) (hn : 0 < n) (hn1 : n ≤ 1000) :
    Calls Tryd.prog 27 #[.int .i64 c, .int .i64 n] w fun e w' => (∃ k : Nat, e = .returned (.int .i64 k) ∧ (k : Int) < n) ∧ w' = w := by
  by_cases h : c < 0
  · go_enter Tryd.func27, Tryd.ntmps27
    go_wp2
    go_ret
    have e0 : -(c + 1).tmod n = (-(c + 1)) % n := by rw [← Int.neg_tmod, Int.tmod_eq_emod_of_nonneg (by omega)]
    have e1 := Int.emod_nonneg (-(c + 1)) (show n ≠ 0 by omega)
    have e2 := Int.emod_lt_of_pos (-(c + 1)) hn
    refine ⟨⟨((-(c + 1)) % n).toNat, ?_, by omega⟩, rfl⟩
    rw [e0, Int.toNat_of_nonneg e1]
    rfl
  · go_enter Tryd.func27, Tryd.ntmps27
    go_wp2
    go_ret
    have e1 := Int.emod_nonneg c (show n ≠ 0 by omega)
    have e2 := Int.emod_lt_of_pos c hn
    refine ⟨⟨(c % n).toNat, ?_, by omega⟩, rfl⟩
    rw [Int.toNat_of_nonneg e1]
    rfl
end Go.Proofs.YtldiemjlpnachaaDoor
