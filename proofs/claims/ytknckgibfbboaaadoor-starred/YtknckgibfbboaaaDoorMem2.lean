import Derived.Test.YtknckgibfbboaaaDoorMem
import Derived.Deep.RegionWith
namespace Go.Proofs.YtknckgibfbboaaaDoor
open Go.RowKit
variable {f : Nat → Bool}

theorem u8le (u : UInt8) : (u.toNat : Int) ≤ 255 := by
  have := u.toNat_lt
  omega
theorem wrapI (x : Int) (h0 : 0 ≤ x) (h1 : x ≤ 1000000) : IntKind.i64.wrap x = x := by
  rw [IntKind.wrap_i64]
  omega
/-- what a range comes to: the error, the place -/
def rgE (l : List UInt8) (p c : Nat) : Int := if (decide (ch l (p + 2) < c) || nmB l (p + 2)) = true then 6 else 0
def rgP (l : List UInt8) (p c : Nat) : Nat := if (decide (ch l (p + 2) < c) || nmB l (p + 2)) = true then p else p + 3
theorem rg_yes {l : List UInt8} {p c : Nat} (h : (decide (ch l (p + 2) < c) || nmB l (p + 2)) = true) : Hid (rgE l p c = 6 ∧ rgP l p c = p ∧ rgF l p c f = f) := by
  unfold rgE rgP rgF; rw [if_pos h, if_pos h, if_pos h]; exact ⟨rfl, rfl, rfl⟩
theorem rg_no {l : List UInt8} {p c : Nat} (h : ¬ (decide (ch l (p + 2) < c) || nmB l (p + 2)) = true) : Hid (rgE l p c = 0 ∧ rgP l p c = p + 3 ∧ rgF l p c f = addR f c (ch l (p + 2))) := by
  unfold rgE rgP rgF; rw [if_neg h, if_neg h, if_neg h]; exact ⟨rfl, rfl, rfl⟩

set_option maxRecDepth 100000 in
set_option maxHeartbeats 3200000 in
theorem byteRange_any (M : Nat) (s : ByteArray) (p : Nat) (bc : Bool) (c : Nat) (w : World) (hm : Mem w M s p bc f) (hs : s.size ≤ 60) (hp : p + 2 < s.size) (hc : c < 256) :
    Calls Tryd.prog 84 #[.pointer (some ⟨M, 0, none⟩), .int .u8 c] w fun e w' =>
      e = .returned (.int .i64 (rgE s.data.toList p c)) ∧ Mem w' M s (rgP s.data.toList p c) bc (rgF s.data.toList p c f) ∧ Only w w' M 0 11 := by
  have c0 := hm.c0
  have c1 := hm.c1
  have f1 := hm.f1
  have q0 : (0 : Int) ≤ (p : Int) + 2 := by omega
  have q1 : (p : Int) + 2 < (s.size : Int) := by omega
  have w2 := wrapI ((p : Int) + 2) (by omega) (by omega)
  have q2 : decide ((s.size : Int) ≤ (p : Int) + 2) = false := by simp; omega
  have hcg := ch_get s (p + 2) hp
  have Hcg := hd hcg
  have hb := ch_lt s.data.toList (p + 2)
  rw [← hcg] at hb
  by_cases hlt : (s[p + 2].toNat : Int) < (c : Int)
  · have Hz := rg_yes (f := f) (l := s.data.toList) (p := p) (c := c) (by rw [← hcg]; simp; left; omega)
    clear hcg
    go_enter Tryd.func84, Tryd.ntmps84
    go_wp2
    go_quiet (fail)
    go_wp2
    go_ret
    rw [Hz.out.1, Hz.out.2.1, Hz.out.2.2]
    exact ⟨rfl, hm.drewN, (Only.refl _ _ _ _).drewN⟩
  · have htn : ((p : Int) + 2).toNat = p + 2 := by omega
    have hdf : ∀ (h : ((p : Int) + 2).toNat < s.size), decide ((s[((p : Int) + 2).toNat]'h).toNat < c) = false := by
      intro h
      simp only [htn]
      simp
      omega
    clear htn
    by_cases hn : nmB s.data.toList (p + 2) = true
    · have Hz := rg_yes (f := f) (l := s.data.toList) (p := p) (c := c) (by rw [hn]; simp)
      clear hcg
      go_enter Tryd.func84, Tryd.ntmps84
      go_wp2
      go_quiet ((go_at_call 81; exact Calls.quiet_of_same (begins_at s _ (p + 2) _ (by omega) (by omega))))
      go_wp2
      go_ret
      rw [Hz.out.1, Hz.out.2.1, Hz.out.2.2]
      exact ⟨rfl, hm.drewN, (Only.refl _ _ _ _).drewN⟩
    · have hnf : nmB s.data.toList (p + 2) = false := by simpa using hn
      clear hn
      have Hz := rg_no (f := f) (l := s.data.toList) (p := p) (c := c) (by rw [hnf, ← hcg]; simp; omega)
      clear hcg
      go_enter Tryd.func84, Tryd.ntmps84
      go_wp2
      go_quiet ((go_at_call 81; exact Calls.quiet_of_same (begins_at s _ (p + 2) _ (by omega) (by omega))))
      go_wp2
      go_region_with ((go_at_call 67; refine (addRange_any M 2 _ _ _ (by omega) (by omega) (by omega) (u8le _) (by exact hm.set.drewN)).mono ?_; rintro e w2 ⟨rfl, hs2, ho2⟩))
      all_goals
        have hm2 : Mem w2 M s p bc (addR f c (ch s.data.toList (p + 2))) := hm.drewN.only ho2 hs2.1 (by rw [← Hcg.out]; exact hs2.2 _ hm.is.drewN)
        have Ho2 : Hid (Only w w2 M 0 11) := hd ((Only.refl _ _ _ _).drewN.trans (ho2.mono (by omega) (by omega)))
        have d1 := hm2.c1
        have e1 := hm2.f1
        clear ho2
        go_wp2
        go_ret
        rw [Hz.out.1, Hz.out.2.1, Hz.out.2.2]
        exact ⟨rfl, by simpa using hm2.moved1 (q := p + 3), Ho2.out.setCell _ (by omega) _⟩
end Go.Proofs.YtknckgibfbboaaaDoor
