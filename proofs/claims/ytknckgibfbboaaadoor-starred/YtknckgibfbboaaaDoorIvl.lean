import Derived.Test.YtknckgibfbboaaaDoorStrs
namespace Go.Proofs.YtknckgibfbboaaaDoor
open Go.RowKit

def ivV : Option (Int × Int × Nat) → Value
  | some (m, n, k) => .tuple #[.int .i64 m, .int .i64 n, .int .i64 k, .bool true]
  | none => .tuple #[.int .i64 0, .int .i64 0, .int .i64 0, .bool false]
theorem sw_tail {l : List UInt8} {j : Nat} {a : UInt8} {t : List UInt8} (h : sw l j (a :: t) = true) : sw l (j + 1) t = true := by
  rw [sw_cons] at h
  simp at h
  exact h.2
theorem ivl_le {l : List UInt8} {i k : Nat} {m n : Int} (h : ivl l i = some (m, n, k)) : n = -1 ∨ m ≤ n := by
  unfold ivl at h
  split at h
  · cases h
  · split at h
    · simp at h; omega
    · split at h
      · split at h
        · cases h
        · split at h
          · cases h
          · split at h
            · simp at h; omega
            · cases h
      · split at h
        · simp at h; omega
        · cases h
theorem ivl_bd {l : List UInt8} {i k : Nat} {m n : Int} (h : ivl l i = some (m, n, k)) : 0 ≤ m ∧ m ≤ 20 ∧ -1 ≤ n ∧ n ≤ 20 ∧ i + 2 < k ∧ k ≤ l.length := by
  unfold ivl at h
  split at h
  · cases h
  · rename_i m' j hn
    have hb := num_bd hn
    have key : ∀ (t : List UInt8) (p : Nat), sw l p t = true → 0 < t.length → p + t.length ≤ l.length := by
      intro t p hp ht
      rcases Nat.lt_or_ge l.length (p + t.length) with hlt | hge
      · rw [sw_len l p t hlt ht] at hp; cases hp
      · exact hge
    split at h
    · rename_i h3
      have := key _ _ h3 (by simp)
      simp at h this
      omega
    · split at h
      · split at h
        · cases h
        · rename_i n' k' hn'
          have hb' := num_bd hn'
          split at h
          · cases h
          · split at h
            · rename_i h2
              have := key _ _ h2 (by simp)
              simp at h this
              omega
            · cases h
      · split at h
        · rename_i h2
          have := key _ _ h2 (by simp)
          simp at h this
          omega
        · cases h

set_option maxHeartbeats 1600000 in
theorem readInterval_any (s : ByteArray) (i : Int) (w : World) (hs : s.size ≤ 1000) (h0 : 0 ≤ i) (h1 : i ≤ 2000) :
    Calls Tryd.prog 73 #[.string s, .int .i64 i] w fun e w' => e = .returned (ivV (ivl s.data.toList i.toNat)) ∧ w' = w := by
  have Hl := hd (len_data s)
  obtain ⟨a, rfl⟩ := Int.eq_ofNat_of_zero_le h0
  rw [Int.toNat_natCast]
  cases hn : num s.data.toList a with
  | none =>
    have Hv : Hid (ivl s.data.toList a = none) := by unfold ivl; rw [hn]; exact hd rfl
    have Hn := hd hn
    clear hn
    go_enter Tryd.func73, Tryd.ntmps73
    go_wp2_with (go_at_call 80; refine (readNumber_any s _ none _ hs (by omega) (by omega) (by simpa using Hn.out)).mono ?_; rintro e w' ⟨rfl, rfl⟩; simp only [numV])
    exact bodyPost_ret (v := ivV none) (by simp [results, Tryd.results73, go_sem, ivV]) rfl ⟨by rw [Hv.out], rfl⟩
  | some p =>
    obtain ⟨m, j⟩ := p
    have hb := num_bd hn
    rw [Hl.out] at hb
    have Hn := hd hn
    clear hn
    by_cases h3 : sw s.data.toList j [44, 92, 125] = true
    · have Hv : Hid (ivl s.data.toList a = some ((m : Int), -1, j + 3)) := by unfold ivl; rw [Hn.out]; simp [h3, Hid]
      have h3' := sw_tail h3
      go_enter Tryd.func73, Tryd.ntmps73
      go_wp2_with (first
        | (go_at_call 80; refine (readNumber_any s _ (some (m, j)) _ hs (by omega) (by omega) (by simpa using Hn.out)).mono ?_; rintro e w' ⟨rfl, rfl⟩; simp only [numV])
        | (go_at_call 68; refine (hasAt_any s _ _ _ hs (by decide) (by decide) (by omega) (by omega)).mono ?_; rintro e w' ⟨rfl, rfl⟩))
      exact bodyPost_ret (v := ivV (some ((m : Int), -1, j + 3))) (by simp [results, Tryd.results73, go_sem, ivV]; omega) rfl ⟨by rw [Hv.out], rfl⟩
    · have h3f : sw s.data.toList j [44, 92, 125] = false := by simpa using h3
      clear h3
      by_cases h1c : sw s.data.toList j [44] = true
      · cases hn2 : num s.data.toList (j + 1) with
        | none =>
          have Hv : Hid (ivl s.data.toList a = none) := by unfold ivl; rw [Hn.out]; simp [h3f, h1c, hn2, Hid]
          have Hn2 := hd hn2
          clear hn2
          go_enter Tryd.func73, Tryd.ntmps73
          go_wp2_with fail
          refine (readNumber_any s _ (some (m, j)) _ hs (by omega) (by omega) (by simpa using Hn.out)).mono ?_; rintro e w' ⟨rfl, rfl⟩; simp only [numV]
          go_wp2_with (first
            | (go_at_call 80; refine (readNumber_any s _ none _ hs (by omega) (by omega) (by simpa using Hn2.out)).mono ?_; rintro e w' ⟨rfl, rfl⟩; simp only [numV])
            | (go_at_call 68; refine (hasAt_any s _ _ _ hs (by decide) (by decide) (by omega) (by omega)).mono ?_; rintro e w' ⟨rfl, rfl⟩))
          exact bodyPost_ret (v := ivV none) (by simp [results, Tryd.results73, go_sem, ivV]) rfl ⟨by rw [Hv.out], rfl⟩
        | some p2 =>
          obtain ⟨n, k⟩ := p2
          have hb2 := num_bd hn2
          rw [Hl.out] at hb2
          have Hn2 := hd hn2
          clear hn2
          by_cases hlt : n < m
          · have Hv : Hid (ivl s.data.toList a = none) := by unfold ivl; rw [Hn.out]; simp [h3f, h1c, Hn2.out, hlt, Hid]
            go_enter Tryd.func73, Tryd.ntmps73
            go_wp2_with fail
            refine (readNumber_any s _ (some (m, j)) _ hs (by omega) (by omega) (by simpa using Hn.out)).mono ?_; rintro e w' ⟨rfl, rfl⟩; simp only [numV]
            go_wp2_with (first
              | (go_at_call 80; refine (readNumber_any s _ (some (n, k)) _ hs (by omega) (by omega) (by simpa using Hn2.out)).mono ?_; rintro e w' ⟨rfl, rfl⟩; simp only [numV])
              | (go_at_call 68; refine (hasAt_any s _ _ _ hs (by decide) (by decide) (by omega) (by omega)).mono ?_; rintro e w' ⟨rfl, rfl⟩))
            exact bodyPost_ret (v := ivV none) (by simp [results, Tryd.results73, go_sem, ivV]) rfl ⟨by rw [Hv.out], rfl⟩
          · by_cases h2 : sw s.data.toList k [92, 125] = true
            · have Hv : Hid (ivl s.data.toList a = some ((m : Int), (n : Int), k + 2)) := by unfold ivl; rw [Hn.out]; simp [h3f, h1c, Hn2.out, hlt, h2, Hid]
              go_enter Tryd.func73, Tryd.ntmps73
              go_wp2_with fail
              refine (readNumber_any s _ (some (m, j)) _ hs (by omega) (by omega) (by simpa using Hn.out)).mono ?_; rintro e w' ⟨rfl, rfl⟩; simp only [numV]
              go_wp2_with (first
                | (go_at_call 80; refine (readNumber_any s _ (some (n, k)) _ hs (by omega) (by omega) (by simpa using Hn2.out)).mono ?_; rintro e w' ⟨rfl, rfl⟩; simp only [numV])
                | (go_at_call 68; refine (hasAt_any s _ _ _ hs (by decide) (by decide) (by omega) (by omega)).mono ?_; rintro e w' ⟨rfl, rfl⟩))
              exact bodyPost_ret (v := ivV (some ((m : Int), (n : Int), k + 2))) (by simp [results, Tryd.results73, go_sem, ivV]) rfl ⟨by rw [Hv.out], rfl⟩
            · have h2f : sw s.data.toList k [92, 125] = false := by simpa using h2
              clear h2
              have Hv : Hid (ivl s.data.toList a = none) := by unfold ivl; rw [Hn.out]; simp [h3f, h1c, Hn2.out, hlt, h2f, Hid]
              go_enter Tryd.func73, Tryd.ntmps73
              go_wp2_with fail
              refine (readNumber_any s _ (some (m, j)) _ hs (by omega) (by omega) (by simpa using Hn.out)).mono ?_; rintro e w' ⟨rfl, rfl⟩; simp only [numV]
              go_wp2_with (first
                | (go_at_call 80; refine (readNumber_any s _ (some (n, k)) _ hs (by omega) (by omega) (by simpa using Hn2.out)).mono ?_; rintro e w' ⟨rfl, rfl⟩; simp only [numV])
                | (go_at_call 68; refine (hasAt_any s _ _ _ hs (by decide) (by decide) (by omega) (by omega)).mono ?_; rintro e w' ⟨rfl, rfl⟩))
              exact bodyPost_ret (v := ivV none) (by simp [results, Tryd.results73, go_sem, ivV]) rfl ⟨by rw [Hv.out], rfl⟩
      · have h1f : sw s.data.toList j [44] = false := by simpa using h1c
        clear h1c
        by_cases h2 : sw s.data.toList j [92, 125] = true
        · have Hv : Hid (ivl s.data.toList a = some ((m : Int), (m : Int), j + 2)) := by unfold ivl; rw [Hn.out]; simp [h3f, h1f, h2, Hid]
          go_enter Tryd.func73, Tryd.ntmps73
          go_wp2_with (first
            | (go_at_call 80; refine (readNumber_any s _ (some (m, j)) _ hs (by omega) (by omega) (by simpa using Hn.out)).mono ?_; rintro e w' ⟨rfl, rfl⟩; simp only [numV])
            | (go_at_call 68; refine (hasAt_any s _ _ _ hs (by decide) (by decide) (by omega) (by omega)).mono ?_; rintro e w' ⟨rfl, rfl⟩))
          exact bodyPost_ret (v := ivV (some ((m : Int), (m : Int), j + 2))) (by simp [results, Tryd.results73, go_sem, ivV]) rfl ⟨by rw [Hv.out], rfl⟩
        · have h2f : sw s.data.toList j [92, 125] = false := by simpa using h2
          clear h2
          have Hv : Hid (ivl s.data.toList a = none) := by unfold ivl; rw [Hn.out]; simp [h3f, h1f, h2f, Hid]
          go_enter Tryd.func73, Tryd.ntmps73
          go_wp2_with (first
            | (go_at_call 80; refine (readNumber_any s _ (some (m, j)) _ hs (by omega) (by omega) (by simpa using Hn.out)).mono ?_; rintro e w' ⟨rfl, rfl⟩; simp only [numV])
            | (go_at_call 68; refine (hasAt_any s _ _ _ hs (by decide) (by decide) (by omega) (by omega)).mono ?_; rintro e w' ⟨rfl, rfl⟩))
          exact bodyPost_ret (v := ivV none) (by simp [results, Tryd.results73, go_sem, ivV]) rfl ⟨by rw [Hv.out], rfl⟩
end Go.Proofs.YtknckgibfbboaaaDoor
