import Derived.Test.YtldiemjlpnachabDoorKl
/- A program that is alive; a line with its line feed; a number in decimal. -/
namespace Go.Proofs.YtldiemjlpnachabDoor
open Go.RowKit

theorem alive_ok : (parseT [97]).1 = 0 := by kernel_rfl
theorem alive_find : findI [97] [98, 97] 0 = some (1, 2) := by kernel_rfl
theorem alive_grep : grepE [97] [98, 97, 10, 98, 10] ⟨false, false, false, false⟩ = ([98, 97, 10], 0) := by kernel_rfl
theorem res_inj {a b : Nat} {fd : Bool} {x y : Nat} (h : (.tuple #[.int .i64 a, .int .i64 b, .bool fd] : Value) = resE (some (x, y))) : fd = true ∧ a = x ∧ b = y := by
  unfold resE at h
  simp at h
  obtain ⟨h1, h2, h3⟩ := h
  exact ⟨h3, by omega, by omega⟩
theorem data_inj {a : ByteArray} {l : List UInt8} (h : a.data.toList = l) : a = ⟨l.toArray⟩ := by
  subst h
  rfl
set_option maxRecDepth 100000 in
set_option maxHeartbeats 3200000 in
theorem alive_any (w : World) (hn : NamesIn w) (ht : Tb w) :
    Calls Tryd.prog 10 #[] w fun e w' => e = .returned (.bool true) ∧ Below w.heap.size w w' := by
  have Hn := hd hn
  have Ht := hd ht
  have Hg := hd (ggrep_any ⟨#[97]⟩ ⟨#[98, 97, 10, 98, 10]⟩ ⟨false, false, false, false⟩ w hn ht (by unfold maxLen; decide) (by unfold maxLen; decide))
  clear hn ht
  go_enter Tryd.func10, Tryd.ntmps10
  go_wp2_with fail
  refine Hg.out.mono ?_
  rintro e1 w1 ⟨hb1, A, rfl, hA⟩
  have hA1 : A = ⟨#[98, 97, 10]⟩ := data_inj (by rw [hA]; exact congrArg Prod.fst alive_grep)
  have hst : (grepE (⟨#[97]⟩ : ByteArray).data.toList (⟨#[98, 97, 10, 98, 10]⟩ : ByteArray).data.toList ⟨false, false, false, false⟩).2 = 0 := congrArg Prod.snd alive_grep
  rw [hst]
  clear hA hst
  subst hA1
  have HB1 := hd hb1
  clear hb1 Hg
  have Hf := hd (found_all ⟨#[97]⟩ ⟨#[98, 97]⟩ [97] [98, 97] 0 1 2 w1 rfl rfl (Hn.out.below HB1.out Hn.out.lt) (by unfold maxLen; decide) (by decide) alive_ok (fun fd a b h => by
    rw [if_neg (by decide)]
    have h2 := find_res alive_ok h
    rw [alive_find] at h2
    obtain ⟨z1, z2, z3⟩ := res_inj h2
    exact ⟨z1, by omega, by omega⟩))
  go_wp2_with fail
  refine Hf.out.mono ?_
  rintro e2 w2 ⟨rfl, hb2⟩
  have HB2 := hd (HB1.out.trans (hb2.mono HB1.out.size))
  clear hb2
  go_wp2
  go_ret
  exact ⟨rfl, HB2.out⟩
end Go.Proofs.YtldiemjlpnachabDoor
