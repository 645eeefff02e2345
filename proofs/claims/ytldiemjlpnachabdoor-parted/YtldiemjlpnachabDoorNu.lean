import Derived.Test.YtldiemjlpnachabDoorOn
/- A number in decimal; a line with its line feed. -/
namespace Go.Proofs.YtldiemjlpnachabDoor
open Go.RowKit

theorem str_of8 (w : World) (v : Int) (c : UInt8) (hv : v = c.toNat) (g : Nat) (hg : g = w.heap.size) :
    (convert 23 9 (.slice (some ⟨g, 0, none⟩) 1 1)).run Tryd.prog (w.alloc (.cells #[.int .u8 v] 5)) = .ok (.string ⟨#[c]⟩) (w.alloc (.cells #[.int .u8 v] 5)) := by
  subst hg hv
  have := run_convert_bytes_back (P := Tryd.prog) (w.alloc (.cells #[.int .u8 c.toNat] 5)) 23 9 5 ⟨w.heap.size, 0, none⟩ 1 [c] Tryd.underlying23 Tryd.underlying5 Tryd.underlying9 (fun j hj => by
    have hj0 : j = 0 := by simpa using hj
    subst hj0
    have e : (⟨w.heap.size, 0, none⟩ : Addr).add 0 = ⟨w.heap.size, 0, none⟩ := by unfold Addr.add; split <;> simp_all
    rw [e]
    simp)
  exact this
theorem str_cell8 {v : Int} {c : UInt8} (hv : v = c.toNat) (w : World) (g : Nat) (h : w.cell? ⟨g, 0, none⟩ = some (.int .u8 v)) :
    (convert 23 9 (.slice (some ⟨g, 0, none⟩) 1 1)).run Tryd.prog w = .ok (.string ⟨#[c]⟩) w := by
  subst hv
  refine run_convert_bytes_back (P := Tryd.prog) w 23 9 5 ⟨g, 0, none⟩ 1 [c] Tryd.underlying23 Tryd.underlying5 Tryd.underlying9 (fun j hj => ?_)
  have hj0 : j = 0 := by simpa using hj
  subst hj0
  have e : (⟨g, 0, none⟩ : Addr).add 0 = ⟨g, 0, none⟩ := by unfold Addr.add; split <;> simp_all
  rw [e]
  exact h
def numB (n : Nat) : ByteArray := ⟨(Lib.decDigits n).toArray⟩
theorem dig_val (r : Nat) (h : r < 10) : (48 + (r : Int)) = ((UInt8.ofNat (48 + r)).toNat : Int) := by rw [UInt8.toNat_ofNat', Nat.mod_eq_of_lt (by omega)]; omega
theorem numB_len (n : Nat) (h : n ≤ 100000) : (numB n).size ≤ 21 := by
  have := itoa_len n (by omega)
  rw [Lib.itoa_nonneg] at this
  simpa [numB, ByteArray.size] using this
theorem numB_step (n : Nat) (h : ¬ n < 10) : numB n = numB (n / 10) ++ ⟨#[UInt8.ofNat (48 + n % 10)]⟩ := by
  apply ByteArray.ext
  apply Array.toList_inj.1
  rw [app_l]
  unfold numB
  conv => lhs; rw [Lib.decDigits, dif_neg h]
set_option maxRecDepth 100000 in
set_option maxHeartbeats 1600000 in
theorem number_any : ∀ (n : Nat), n ≤ 100000 → ∀ w : World, Calls Tryd.prog 14 #[.int .i64 n] w fun e w' => e = .returned (.string (numB n)) ∧ Below w.heap.size w w' := by
  intro n
  induction n using Nat.strongRecOn with
  | _ n ih =>
  intro hn w
  have hn0 : (0 : Int) ≤ (n : Int) := by omega
  have hnI : (n : Int) ≤ 100000 := by omega
  by_cases h10 : n < 10
  · have h10I : (n : Int) < 10 := by omega
    have hs1 := fun w0 => str_of8 w0 (48 + (n : Int)) (UInt8.ofNat (48 + n)) (dig_val n h10) w0.heap.size rfl
    have HE : Hid (numB n = ⟨#[UInt8.ofNat (48 + n)]⟩) := hd (by unfold numB; rw [Lib.decDigits_one h10])
    generalize UInt8.ofNat (48 + n) = c at *
    clear ih
    go_enter Tryd.func14, Tryd.ntmps14
    go_wp2
    go_ret
    refine ⟨by rw [HE.out]; rfl, (Below.refl _ _).alloc (Nat.le_refl _) _⟩
  · have h10I : ¬ (n : Int) < 10 := by omega
    have HE := hd (numB_step n h10)
    have Hih := hd (ih (n / 10) (by omega) (by omega))
    have hql := numB_len (n / 10) (by omega)
    clear ih
    have hq : (n : Int).tdiv 10 = ((n / 10 : Nat) : Int) := by rw [Int.tdiv_eq_ediv_of_nonneg hn0]; omega
    have hr : (n : Int).tmod 10 = ((n % 10 : Nat) : Int) := by rw [Int.tmod_eq_emod_of_nonneg hn0]; omega
    have hq2 : (n : Int) / 10 = ((n / 10 : Nat) : Int) := by omega
    have hr2 : (n : Int) % 10 = ((n % 10 : Nat) : Int) := by omega
    have hr10 : n % 10 < 10 := by omega
    generalize n / 10 = q at *
    generalize n % 10 = r at *
    have hs1 := fun w0 => str_of8 w0 (48 + (r : Int)) (UInt8.ofNat (48 + r)) (dig_val r hr10) w0.heap.size rfl
    have hs2 := str_cell8 (dig_val r hr10)
    have hr0 : (0 : Int) ≤ (r : Int) := by omega
    have hr9 : (r : Int) ≤ 9 := by omega
    have hw1 : IntKind.i64.wrap (q : Int) = (q : Int) := wrapI _ (by omega) (by omega)
    have hw2 : IntKind.i64.wrap (48 + (r : Int)) = 48 + (r : Int) := wrapI _ (by omega) (by omega)
    have hw3 : IntKind.u8.wrap (48 + (r : Int)) = 48 + (r : Int) := by
      have : IntKind.u8.wrap (48 + (r : Int)) = (48 + (r : Int)) % 256 := by simp [IntKind.wrap, IntKind.signed, IntKind.bits]
      omega
    clear hr10
    generalize numB q = Q at *
    generalize UInt8.ofNat (48 + r) = c at *
    go_enter Tryd.func14, Tryd.ntmps14
    go_wp2_with fail
    go_region_with ((go_at_call 14; refine (Hih.out _).mono ?_; rintro e w4 ⟨rfl, hb4⟩; (try have hc4 : w4.cell? ⟨w.heap.size, 0, none⟩ = some (.int .u8 (48 + (r : Int))) := by (rw [hb4.cell (by simp)]; simp))))
    all_goals
      have HB : Hid (Below w.heap.size w w4) := hd (by
        first
        | exact (show Below w.heap.size w w.drew from ⟨rfl, rfl, rfl, Nat.le_refl _, fun _ _ => rfl⟩).trans hb4
        | exact ((show Below w.heap.size w w.drew from ⟨rfl, rfl, rfl, Nat.le_refl _, fun _ _ => rfl⟩).alloc (Nat.le_refl _) _).trans (hb4.mono (by simp)))
      clear hb4
      go_wp2
      go_ret
      refine ⟨by rw [HE.out]; rfl, ?_⟩
      first
      | exact HB.out
      | exact HB.out.alloc HB.out.size _
set_option maxRecDepth 100000 in
set_option maxHeartbeats 1600000 in
theorem ended_any (w : World) (S : ByteArray) (s : List UInt8) (hS : S.size ≤ 5000) (h10 : 10 ∉ s) (h : S.data.toList = s ++ [10] ∨ (S.data.toList = s ∧ s ≠ [])) :
    Calls Tryd.prog 15 #[.string S] w fun e w' => ∃ A : ByteArray, e = .returned (.string A) ∧ A.data.toList = s ++ [10] ∧ w' = w := by
  have hne : S.data.toList ≠ [] := by rcases h with h | ⟨h, h2⟩ <;> rw [h] <;> simp_all
  have hE : S.toList.isEmpty = false := by rw [List.isEmpty_eq_false_iff, ByteArray.toList_eq]; exact hne
  have hE2 : S.toList ≠ [] := by rw [ByteArray.toList_eq]; exact hne
  have hpos : 0 < S.size := by rw [← len_data]; exact List.length_pos_iff.2 hne
  obtain ⟨k, hk⟩ : ∃ k, S.size = k + 1 := ⟨S.size - 1, by omega⟩
  have hkl : k < S.size := by omega
  have hkd : k < S.data.toList.length := by rw [len_data]; exact hkl
  have hch : (S[k]'hkl).toNat = (S.data.toList[k]).toNat := by
    rw [ch_get S k hkl]
    unfold ch
    rw [List.getElem?_eq_getElem hkd]
    rfl
  have hk1 : (S.size : Int) - 1 = (k : Int) := by omega
  have hk0 : (0 : Int) ≤ (k : Int) := by omega
  have hk2 : (k : Int) < (S.size : Int) := by omega
  rcases h with h | ⟨h, h2⟩
  · have hlast : S.data.toList[k] = 10 := by
      have hl : s.length = k := by have := congrArg List.length h; rw [len_data, hk] at this; simp at this; omega
      have : S.data.toList[k]? = some 10 := by rw [h, List.getElem?_append_right (by omega), hl]; simp
      rw [List.getElem?_eq_getElem hkd] at this
      exact Option.some.inj this
    have hb : (((S[k]'hkl).toNat : Int) != 10) = false := by rw [hch, hlast]; decide
    have H := hd h
    clear h hch hlast hne hk hkd hpos
    go_enter Tryd.func15, Tryd.ntmps15
    go_wp2
    go_ret
    exact ⟨S, rfl, H.out, rfl⟩
  · have hlast : S.data.toList[k] ≠ 10 := by
      intro e
      apply h10
      rw [← h, ← e]
      exact List.getElem_mem hkd
    have hb : (((S[k]'hkl).toNat : Int) != 10) = true := by
      rw [bne_iff_ne, hch]
      intro h
      apply hlast
      apply UInt8.toNat_inj.1
      show _ = 10
      omega
    have H := hd h
    clear h hch hlast hne hk hkd hpos
    go_enter Tryd.func15, Tryd.ntmps15
    go_wp2
    go_ret
    exact ⟨S ++ ⟨#[10]⟩, rfl, by rw [app_l, H.out], rfl⟩
end Go.Proofs.YtldiemjlpnachabDoor
