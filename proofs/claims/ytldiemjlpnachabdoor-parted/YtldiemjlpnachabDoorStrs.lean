import Derived.Test.YtldiemjlpnachabDoorRows
import Derived.Test.YtldiemjlpnachabDoorTwin
import Derived.WalkKit
import Derived.WalkSpells
import Derived.WalkLawsBesides
import Derived.Deep.Light
namespace Go.Proofs.YtldiemjlpnachabDoor
open Go.RowKit

theorem ret_bool {a b : Bool} (h : a = b) : Ending.returned (.bool a) = .returned (.bool b) := by rw [h]

set_option maxHeartbeats 400000 in
theorem hasAt_any (s t : ByteArray) (i : Int) (w : World) (hs : s.size ≤ 1000) (ht : t.size ≤ 1000) (hp : 0 < t.size) (h0 : 0 ≤ i) (h1 : i ≤ 2000) :
    Calls Tryd.prog 60 #[.string s, .int .i64 i, .string t] w fun e w' => e = .returned (.bool (sw s.data.toList i.toNat t.data.toList)) ∧ w' = w := by
  go_enter Tryd.func60, Tryd.ntmps60
  go_wp2
  all_goals go_ret
  all_goals first
    | exact ⟨ret_bool (by rw [sw_len _ _ _ (by simp; omega) (by simpa using hp)]), rfl⟩
    | exact ⟨ret_bool (by rw [show (i + (t.size : Int)).toNat = i.toNat + t.size by omega, sw_yes]), rfl⟩

/-- the same, the place a number of one's own -/
theorem hasAt_at (s t : ByteArray) (i : Int) (p : Nat) (tl : List UInt8) (w : World) (hip : i = p) (htl : t.data.toList = tl) (hs : s.size ≤ 1000) (ht : t.size ≤ 1000) (hp : 0 < t.size) (h1 : p ≤ 2000) :
    Calls Tryd.prog 60 #[.string s, .int .i64 i, .string t] w fun e w' => e = .returned (.bool (sw s.data.toList p tl)) ∧ w' = w := by
  subst hip htl
  have := hasAt_any s t p w hs ht hp (by omega) (by omega)
  rwa [Int.toNat_natCast] at this

set_option maxHeartbeats 400000 in
theorem begins_any (s : ByteArray) (i : Int) (w : World) (h0 : 0 ≤ i) (h1 : i ≤ 2000) :
    Calls Tryd.prog 89 #[.string s, .int .i64 i] w fun e w' => e = .returned (.bool (nmB s.data.toList i.toNat)) ∧ w' = w := by
  obtain ⟨n, rfl⟩ := Int.eq_ofNat_of_zero_le h0
  rw [Int.toNat_natCast]
  go_enter Tryd.func89, Tryd.ntmps89
  go_wp2
  all_goals go_ret
  all_goals refine ⟨ret_bool ?_, rfl⟩
  all_goals go_light
  all_goals first | (rw [nmB_out (by omega)]; done) | (rw [nmB_in (by omega)]; simp_all; done) | (rw [nmB_in (by omega)]; simp_all; omega)

theorem begins_at (s : ByteArray) (i : Int) (p : Nat) (w : World) (hip : i = p) (h1 : p ≤ 2000) :
    Calls Tryd.prog 89 #[.string s, .int .i64 i] w fun e w' => e = .returned (.bool (nmB s.data.toList p)) ∧ w' = w := by
  subst hip
  have := begins_any s p w (by omega) (by omega)
  rwa [Int.toNat_natCast] at this

def numV : Option (Nat × Nat) → Value
  | some (n, k) => .tuple #[.int .i64 n, .int .i64 k, .bool true]
  | none => .tuple #[.int .i64 0, .int .i64 0, .bool false]
theorem hd {p : Prop} (h : p) : Hid p := h

theorem dig_in {s : ByteArray} {k : Nat} (h : k < s.size) : dig (ch s.data.toList k) = decide (48 ≤ (s[k].toNat : Int) ∧ (s[k].toNat : Int) ≤ 57) := by
  unfold dig
  rw [← ch_get s k h, Bool.eq_iff_iff]
  simp
  omega
theorem rn_big {s : ByteArray} {k n a : Nat} {r : Option (Nat × Nat)} (h : k < s.size) (h1 : 48 ≤ (s[k].toNat : Int)) (h2 : (s[k].toNat : Int) ≤ 57) (h3 : 20 < (n : Int) * 10 + ((s[k].toNat : Int) - 48))
    (hg : numGo s.data.toList (s.data.toList.length - k) n k = numGo s.data.toList (s.data.toList.length - a) 0 a) (hr : num s.data.toList a = r) : r = none := by
  rw [← hr]
  apply num_none
  rw [← hg]
  have := ch_get s k h
  exact numGo_big (by simpa using h) (by rw [dig_in h]; simp; omega) (by omega)
theorem rn_more {s : ByteArray} {k n a : Nat} (h : k < s.size) (h1 : 48 ≤ (s[k].toNat : Int)) (h2 : (s[k].toNat : Int) ≤ 57) (h3 : ¬ 20 < (n : Int) * 10 + ((s[k].toNat : Int) - 48))
    (hg : numGo s.data.toList (s.data.toList.length - k) n k = numGo s.data.toList (s.data.toList.length - a) 0 a) :
    numGo s.data.toList (s.data.toList.length - (k + 1)) (n * 10 + (s[k].toNat - 48)) (k + 1) = numGo s.data.toList (s.data.toList.length - a) 0 a := by
  rw [← hg]
  have hc := ch_get s k h
  have hm : 48 ≤ ch s.data.toList k ∧ ch s.data.toList k ≤ 57 := by omega
  rw [hc]
  rw [hc] at h3
  exact (numGo_more (by simpa using h) (by unfold dig; simpa using hm) (by omega)).symm
theorem rn_end {s : ByteArray} {k n a : Nat} {r : Option (Nat × Nat)} (h0 : numGo s.data.toList (s.data.toList.length - k) n k = some (n, k))
    (hg : numGo s.data.toList (s.data.toList.length - k) n k = numGo s.data.toList (s.data.toList.length - a) 0 a) (hr : num s.data.toList a = r) : r = if k = a then none else some (n, k) := by
  rw [← hr]
  exact num_of (hg.symm.trans h0)
theorem rn_no {s : ByteArray} {k n : Nat} (h : k < s.size) (h1 : (s[k].toNat : Int) < 48 ∨ 57 < (s[k].toNat : Int)) : numGo s.data.toList (s.data.toList.length - k) n k = some (n, k) :=
  numGo_no (by rw [dig_in h]; simp; omega)
theorem rn_same {s : ByteArray} {k n a : Nat} {r : Option (Nat × Nat)} (h : k < s.size) (h1 : (s[k].toNat : Int) < 48 ∨ 57 < (s[k].toNat : Int)) (e : k = a)
    (hg : numGo s.data.toList (s.data.toList.length - k) n k = numGo s.data.toList (s.data.toList.length - a) 0 a) (hr : num s.data.toList a = r) : r = none := by
  rw [rn_end (rn_no h h1) hg hr, if_pos e]
theorem rn_stop {s : ByteArray} {k n a : Nat} {r : Option (Nat × Nat)} (h : k < s.size) (h1 : (s[k].toNat : Int) < 48 ∨ 57 < (s[k].toNat : Int)) (e : k ≠ a)
    (hg : numGo s.data.toList (s.data.toList.length - k) n k = numGo s.data.toList (s.data.toList.length - a) 0 a) (hr : num s.data.toList a = r) : r = some (n, k) := by
  rw [rn_end (rn_no h h1) hg hr, if_neg e]
theorem rn_same' {s : ByteArray} {k n a : Nat} {r : Option (Nat × Nat)} (h : ¬ k < s.size) (e : k = a)
    (hg : numGo s.data.toList (s.data.toList.length - k) n k = numGo s.data.toList (s.data.toList.length - a) 0 a) (hr : num s.data.toList a = r) : r = none := by
  rw [rn_end (numGo_end (by simpa using h)) hg hr, if_pos e]
theorem rn_stop' {s : ByteArray} {k n a : Nat} {r : Option (Nat × Nat)} (h : ¬ k < s.size) (e : k ≠ a)
    (hg : numGo s.data.toList (s.data.toList.length - k) n k = numGo s.data.toList (s.data.toList.length - a) 0 a) (hr : num s.data.toList a = r) : r = some (n, k) := by
  rw [rn_end (numGo_end (by simpa using h)) hg hr, if_neg e]

set_option maxHeartbeats 400000 in
theorem readNumber_any (s : ByteArray) (i : Int) (r : Option (Nat × Nat)) (w : World) (hs : s.size ≤ 1000) (h0 : 0 ≤ i) (h1 : i ≤ 2000) (hr : num s.data.toList i.toNat = r) :
    Calls Tryd.prog 88 #[.string s, .int .i64 i] w fun e w' => e = .returned (numV r) ∧ w' = w := by
  have hl := len_data s
  obtain ⟨a, rfl⟩ := Int.eq_ofNat_of_zero_le h0
  rw [Int.toNat_natCast] at hr
  have Hr := hd hr
  have Hl := hd hl
  clear hr hl
  go_enter Tryd.func88, Tryd.ntmps88
  go_wp2
  go_loop [1, 7] (fun p m => ∃ k n : Nat, p = .int .i64 k ∧ m = .int .i64 n ∧ n ≤ 20 ∧ a ≤ k ∧ k ≤ 2000 ∧ Hid (numGo s.data.toList (s.data.toList.length - k) n k = numGo s.data.toList (s.data.toList.length - a) 0 a)) (fun p _ => 2000 - (intOf p).toNat)
  case atStart => exact ⟨a, 0, rfl, rfl, by omega, by omega, by omega, hd rfl⟩
  case round =>
    obtain ⟨k, n, rfl, rfl, hn, hak, hk, HG⟩ := hrel
    by_cases hlt : k < s.size
    · by_cases hdg : 48 ≤ (s[k].toNat : Int) ∧ (s[k].toNat : Int) ≤ 57
      · obtain ⟨hd1, hd2⟩ := hdg
        by_cases hbig : 20 < (n : Int) * 10 + ((s[k].toNat : Int) - 48)
        · go_wp2
          go_ret3
          rw [rn_big hlt hd1 hd2 hbig HG.out Hr.out]
          exact ⟨rfl, rfl⟩
        · go_wp2
          go_round
          case rel => exact ⟨k + 1, n * 10 + (s[k].toNat - 48), by go_num, by go_num, by omega, by omega, by omega, hd (rn_more hlt hd1 hd2 hbig HG.out)⟩
          case measure => simp [intOf]; omega
      · have hno : (s[k].toNat : Int) < 48 ∨ 57 < (s[k].toNat : Int) := by omega
        have Hno := hd hno
        clear hdg hno
        by_cases hka : k = a
        · have hb : ((k : Int) == (a : Int)) = true := by simp [hka]
          have Hr' := hd (rn_same hlt Hno.out hka HG.out Hr.out)
          clear hka
          rcases Hno.out with h | h
          all_goals go_wp2
          all_goals go_ret3
          all_goals rw [Hr'.out]
          all_goals exact ⟨rfl, rfl⟩
        · have hb : ((k : Int) == (a : Int)) = false := by simp; omega
          have Hr' := hd (rn_stop hlt Hno.out hka HG.out Hr.out)
          rcases Hno.out with h | h
          all_goals go_wp2
          all_goals go_ret3
          all_goals rw [Hr'.out]
          all_goals exact ⟨rfl, rfl⟩
    · by_cases hka : k = a
      · have hb : ((k : Int) == (a : Int)) = true := by simp [hka]
        have Hr' := hd (rn_same' hlt hka HG.out Hr.out)
        clear hka
        go_wp2
        go_ret3
        rw [Hr'.out]
        exact ⟨rfl, rfl⟩
      · have hb : ((k : Int) == (a : Int)) = false := by simp; omega
        have Hr' := hd (rn_stop' hlt hka HG.out Hr.out)
        go_wp2
        go_ret3
        rw [Hr'.out]
        exact ⟨rfl, rfl⟩
end Go.Proofs.YtldiemjlpnachabDoor
namespace Go.Proofs.YtldiemjlpnachabDoor
open Go.RowKit

def ivV : Option (Int × Int × Nat) → Value
  | some (m, n, k) => .tuple #[.int .i64 m, .int .i64 n, .int .i64 k, .bool true]
  | none => .tuple #[.int .i64 0, .int .i64 0, .int .i64 0, .bool false]
theorem sw_tail {l : List UInt8} {j : Nat} {a : UInt8} {t : List UInt8} (h : sw l j (a :: t) = true) : sw l (j + 1) t = true := by
  rw [sw_cons] at h
  simp at h
  exact h.2
theorem ivl_le {l : List UInt8} {i k : Nat} {m n : Int} (h : ivl l i = some (m, n, k)) : n = -1 ∨ m ≤ n := by
  unfold ivl at h
  split at h
  · cases h
  · split at h
    · simp at h; omega
    · split at h
      · split at h
        · cases h
        · split at h
          · cases h
          · split at h
            · simp at h; omega
            · cases h
      · split at h
        · simp at h; omega
        · cases h
theorem ivl_bd {l : List UInt8} {i k : Nat} {m n : Int} (h : ivl l i = some (m, n, k)) : 0 ≤ m ∧ m ≤ 20 ∧ -1 ≤ n ∧ n ≤ 20 ∧ i + 2 < k ∧ k ≤ l.length := by
  unfold ivl at h
  split at h
  · cases h
  · rename_i m' j hn
    have hb := num_bd hn
    have key : ∀ (t : List UInt8) (p : Nat), sw l p t = true → 0 < t.length → p + t.length ≤ l.length := by
      intro t p hp ht
      rcases Nat.lt_or_ge l.length (p + t.length) with hlt | hge
      · rw [sw_len l p t hlt ht] at hp; cases hp
      · exact hge
    split at h
    · rename_i h3
      have := key _ _ h3 (by simp)
      simp at h this
      omega
    · split at h
      · split at h
        · cases h
        · rename_i n' k' hn'
          have hb' := num_bd hn'
          split at h
          · cases h
          · split at h
            · rename_i h2
              have := key _ _ h2 (by simp)
              simp at h this
              omega
            · cases h
      · split at h
        · rename_i h2
          have := key _ _ h2 (by simp)
          simp at h this
          omega
        · cases h

set_option maxHeartbeats 1600000 in
theorem readInterval_any (s : ByteArray) (i : Int) (w : World) (hs : s.size ≤ 1000) (h0 : 0 ≤ i) (h1 : i ≤ 2000) :
    Calls Tryd.prog 72 #[.string s, .int .i64 i] w fun e w' => e = .returned (ivV (ivl s.data.toList i.toNat)) ∧ w' = w := by
  have Hl := hd (len_data s)
  obtain ⟨a, rfl⟩ := Int.eq_ofNat_of_zero_le h0
  rw [Int.toNat_natCast]
  cases hn : num s.data.toList a with
  | none =>
    have Hv : Hid (ivl s.data.toList a = none) := by unfold ivl; rw [hn]; exact hd rfl
    have Hn := hd hn
    clear hn
    go_enter Tryd.func72, Tryd.ntmps72
    go_wp2_with (go_at_call 88; refine (readNumber_any s _ none _ hs (by omega) (by omega) (by simpa using Hn.out)).mono ?_; rintro e w' ⟨rfl, rfl⟩; simp only [numV])
    exact bodyPost_ret (v := ivV none) (by simp [results, Tryd.results72, go_sem, ivV]) rfl ⟨by rw [Hv.out], rfl⟩
  | some p =>
    obtain ⟨m, j⟩ := p
    have hb := num_bd hn
    rw [Hl.out] at hb
    have Hn := hd hn
    clear hn
    by_cases h3 : sw s.data.toList j [44, 92, 125] = true
    · have Hv : Hid (ivl s.data.toList a = some ((m : Int), -1, j + 3)) := by unfold ivl; rw [Hn.out]; simp [h3, Hid]
      have h3' := sw_tail h3
      go_enter Tryd.func72, Tryd.ntmps72
      go_wp2_with (first
        | (go_at_call 88; refine (readNumber_any s _ (some (m, j)) _ hs (by omega) (by omega) (by simpa using Hn.out)).mono ?_; rintro e w' ⟨rfl, rfl⟩; simp only [numV])
        | (go_at_call 60; refine (hasAt_any s _ _ _ hs (by decide) (by decide) (by omega) (by omega)).mono ?_; rintro e w' ⟨rfl, rfl⟩))
      exact bodyPost_ret (v := ivV (some ((m : Int), -1, j + 3))) (by simp [results, Tryd.results72, go_sem, ivV]; omega) rfl ⟨by rw [Hv.out], rfl⟩
    · have h3f : sw s.data.toList j [44, 92, 125] = false := by simpa using h3
      clear h3
      by_cases h1c : sw s.data.toList j [44] = true
      · cases hn2 : num s.data.toList (j + 1) with
        | none =>
          have Hv : Hid (ivl s.data.toList a = none) := by unfold ivl; rw [Hn.out]; simp [h3f, h1c, hn2, Hid]
          have Hn2 := hd hn2
          clear hn2
          go_enter Tryd.func72, Tryd.ntmps72
          go_wp2_with fail
          refine (readNumber_any s _ (some (m, j)) _ hs (by omega) (by omega) (by simpa using Hn.out)).mono ?_; rintro e w' ⟨rfl, rfl⟩; simp only [numV]
          go_wp2_with (first
            | (go_at_call 88; refine (readNumber_any s _ none _ hs (by omega) (by omega) (by simpa using Hn2.out)).mono ?_; rintro e w' ⟨rfl, rfl⟩; simp only [numV])
            | (go_at_call 60; refine (hasAt_any s _ _ _ hs (by decide) (by decide) (by omega) (by omega)).mono ?_; rintro e w' ⟨rfl, rfl⟩))
          exact bodyPost_ret (v := ivV none) (by simp [results, Tryd.results72, go_sem, ivV]) rfl ⟨by rw [Hv.out], rfl⟩
        | some p2 =>
          obtain ⟨n, k⟩ := p2
          have hb2 := num_bd hn2
          rw [Hl.out] at hb2
          have Hn2 := hd hn2
          clear hn2
          by_cases hlt : n < m
          · have Hv : Hid (ivl s.data.toList a = none) := by unfold ivl; rw [Hn.out]; simp [h3f, h1c, Hn2.out, hlt, Hid]
            go_enter Tryd.func72, Tryd.ntmps72
            go_wp2_with fail
            refine (readNumber_any s _ (some (m, j)) _ hs (by omega) (by omega) (by simpa using Hn.out)).mono ?_; rintro e w' ⟨rfl, rfl⟩; simp only [numV]
            go_wp2_with (first
              | (go_at_call 88; refine (readNumber_any s _ (some (n, k)) _ hs (by omega) (by omega) (by simpa using Hn2.out)).mono ?_; rintro e w' ⟨rfl, rfl⟩; simp only [numV])
              | (go_at_call 60; refine (hasAt_any s _ _ _ hs (by decide) (by decide) (by omega) (by omega)).mono ?_; rintro e w' ⟨rfl, rfl⟩))
            exact bodyPost_ret (v := ivV none) (by simp [results, Tryd.results72, go_sem, ivV]) rfl ⟨by rw [Hv.out], rfl⟩
          · by_cases h2 : sw s.data.toList k [92, 125] = true
            · have Hv : Hid (ivl s.data.toList a = some ((m : Int), (n : Int), k + 2)) := by unfold ivl; rw [Hn.out]; simp [h3f, h1c, Hn2.out, hlt, h2, Hid]
              go_enter Tryd.func72, Tryd.ntmps72
              go_wp2_with fail
              refine (readNumber_any s _ (some (m, j)) _ hs (by omega) (by omega) (by simpa using Hn.out)).mono ?_; rintro e w' ⟨rfl, rfl⟩; simp only [numV]
              go_wp2_with (first
                | (go_at_call 88; refine (readNumber_any s _ (some (n, k)) _ hs (by omega) (by omega) (by simpa using Hn2.out)).mono ?_; rintro e w' ⟨rfl, rfl⟩; simp only [numV])
                | (go_at_call 60; refine (hasAt_any s _ _ _ hs (by decide) (by decide) (by omega) (by omega)).mono ?_; rintro e w' ⟨rfl, rfl⟩))
              exact bodyPost_ret (v := ivV (some ((m : Int), (n : Int), k + 2))) (by simp [results, Tryd.results72, go_sem, ivV]) rfl ⟨by rw [Hv.out], rfl⟩
            · have h2f : sw s.data.toList k [92, 125] = false := by simpa using h2
              clear h2
              have Hv : Hid (ivl s.data.toList a = none) := by unfold ivl; rw [Hn.out]; simp [h3f, h1c, Hn2.out, hlt, h2f, Hid]
              go_enter Tryd.func72, Tryd.ntmps72
              go_wp2_with fail
              refine (readNumber_any s _ (some (m, j)) _ hs (by omega) (by omega) (by simpa using Hn.out)).mono ?_; rintro e w' ⟨rfl, rfl⟩; simp only [numV]
              go_wp2_with (first
                | (go_at_call 88; refine (readNumber_any s _ (some (n, k)) _ hs (by omega) (by omega) (by simpa using Hn2.out)).mono ?_; rintro e w' ⟨rfl, rfl⟩; simp only [numV])
                | (go_at_call 60; refine (hasAt_any s _ _ _ hs (by decide) (by decide) (by omega) (by omega)).mono ?_; rintro e w' ⟨rfl, rfl⟩))
              exact bodyPost_ret (v := ivV none) (by simp [results, Tryd.results72, go_sem, ivV]) rfl ⟨by rw [Hv.out], rfl⟩
      · have h1f : sw s.data.toList j [44] = false := by simpa using h1c
        clear h1c
        by_cases h2 : sw s.data.toList j [92, 125] = true
        · have Hv : Hid (ivl s.data.toList a = some ((m : Int), (m : Int), j + 2)) := by unfold ivl; rw [Hn.out]; simp [h3f, h1f, h2, Hid]
          go_enter Tryd.func72, Tryd.ntmps72
          go_wp2_with (first
            | (go_at_call 88; refine (readNumber_any s _ (some (m, j)) _ hs (by omega) (by omega) (by simpa using Hn.out)).mono ?_; rintro e w' ⟨rfl, rfl⟩; simp only [numV])
            | (go_at_call 60; refine (hasAt_any s _ _ _ hs (by decide) (by decide) (by omega) (by omega)).mono ?_; rintro e w' ⟨rfl, rfl⟩))
          exact bodyPost_ret (v := ivV (some ((m : Int), (m : Int), j + 2))) (by simp [results, Tryd.results72, go_sem, ivV]) rfl ⟨by rw [Hv.out], rfl⟩
        · have h2f : sw s.data.toList j [92, 125] = false := by simpa using h2
          clear h2
          have Hv : Hid (ivl s.data.toList a = none) := by unfold ivl; rw [Hn.out]; simp [h3f, h1f, h2f, Hid]
          go_enter Tryd.func72, Tryd.ntmps72
          go_wp2_with (first
            | (go_at_call 88; refine (readNumber_any s _ (some (m, j)) _ hs (by omega) (by omega) (by simpa using Hn.out)).mono ?_; rintro e w' ⟨rfl, rfl⟩; simp only [numV])
            | (go_at_call 60; refine (hasAt_any s _ _ _ hs (by decide) (by decide) (by omega) (by omega)).mono ?_; rintro e w' ⟨rfl, rfl⟩))
          exact bodyPost_ret (v := ivV none) (by simp [results, Tryd.results72, go_sem, ivV]) rfl ⟨by rw [Hv.out], rfl⟩
end Go.Proofs.YtldiemjlpnachabDoor
