import Derived.Test.YtjgafakfpcgpjaaDoorStrs
import Derived.Test.YtjgafakfpcgpjaaDoorFr
import Derived.BigRegion
import Derived.Laws.DeepBits32
namespace Go.Proofs.YtjgafakfpcgpjaaDoor
open Go.RowKit

set_option maxHeartbeats 1600000 in
theorem add_any (B o : Nat) (c : Int) (w : World) (hc0 : 0 ≤ c) (hc1 : c ≤ 255) (hs : SetAt w B o) :
    Calls Tryd.prog 40 #[.pointer (some ⟨B, o, none⟩), .int .u8 c] w fun e w' => e = .returned (.tuple #[]) ∧ SetAt w' B o ∧ Only w w' B o 8 := by
  obtain ⟨⟨z, hz⟩, hf⟩ := hs (c / 32).toNat (by omega)
  have hq0 : 0 ≤ c / 32 := by omega
  have hq1 : c / 32 < 8 := by omega
  have hr0 : 0 ≤ c % 32 := by omega
  have hr1 : c % 32 < 32 := by omega
  go_enter Tryd.func40, Tryd.ntmps40
  go_wp2
  go_region
  go_end0
  exact ⟨rfl, (hs.setCell _ _).drew, ((Only.refl _ _ _ _).setCell _ (by omega) _).drew⟩

set_option maxHeartbeats 1600000 in
theorem addRange_any (B o : Nat) (f l : Int) (w : World) (hf0 : 0 ≤ f) (hf1 : f ≤ 255) (hl0 : 0 ≤ l) (hl1 : l ≤ 255) (hs : SetAt w B o) :
    Calls Tryd.prog 38 #[.pointer (some ⟨B, o, none⟩), .int .u8 f, .int .u8 l] w fun e w' => e = .returned (.tuple #[]) ∧ SetAt w' B o ∧ Only w w' B o 8 := by
  go_enter Tryd.func38, Tryd.ntmps38
  go_wp2
  go_loopw [6] (fun i wr => ∃ k : Int, i = .int .i64 k ∧ 0 ≤ k ∧ k ≤ 256 ∧ SetAt wr B o ∧ Only w wr B o 8) (fun i _ => (256 - intOf i).toNat)
  case atStart => exact ⟨f, rfl, by omega, by omega, hs, Only.refl _ _ _ _⟩
  case round =>
    obtain ⟨k, rfl, hk0, hk1, hsr, hor⟩ := hrel
    by_cases hlt : k ≤ l
    · go_wp2_with (go_at_call 40; refine (add_any B o _ _ (by omega) (by omega) hsr).mono ?_; rintro e w' ⟨rfl, hs', ho'⟩)
      go_roundw
      case rel => exact ⟨k + 1, rfl, by omega, by omega, hs', hor.trans ho'⟩
      case measure => simp [intOf]; omega
    · go_wp2
      go_end0
      exact ⟨rfl, hsr, hor⟩

set_option maxHeartbeats 1600000 in
theorem invert_any (B o : Nat) (w : World) (hs : SetAt w B o) :
    Calls Tryd.prog 44 #[.pointer (some ⟨B, o, none⟩)] w fun e w' => e = .returned (.tuple #[]) ∧ SetAt w' B o ∧ Only w w' B o 8 := by
  go_enter Tryd.func44, Tryd.ntmps44
  go_wp2
  go_loopw [2, 3] (fun _ i wr => ∃ k : Nat, i = .int .i64 k ∧ k ≤ 8 ∧ SetAt wr B o ∧ Only w wr B o 8) (fun _ i _ => (8 - intOf i).toNat)
  case atStart => exact ⟨0, rfl, by omega, hs, Only.refl _ _ _ _⟩
  case round =>
    obtain ⟨k, rfl, hk1, hsr, hor⟩ := hrel
    by_cases hlt : k < 8
    · obtain ⟨⟨z, hz⟩, hf⟩ := hsr k hlt
      have hk8 : (k : Int) < 8 := by omega
      have hk0 : (0 : Int) ≤ (k : Int) := by omega
      go_wp2
      go_region
      go_wp2
      go_roundw
      case rel => exact ⟨k + 1, by go_num, by omega, (hsr.setCell _ _).drew, (hor.setCell _ (by omega) _).drew⟩
      case measure => simp [intOf]; omega
    · go_wp2
      go_end0
      exact ⟨rfl, hsr, hor⟩
end Go.Proofs.YtjgafakfpcgpjaaDoor
