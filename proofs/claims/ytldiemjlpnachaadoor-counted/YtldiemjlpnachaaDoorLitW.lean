import Derived.Test.YtldiemjlpnachaaDoorLit
namespace Go.Proofs.YtldiemjlpnachaaDoor
open Go.RowKit

theorem u8_eq (c k : UInt8) : ((c.toNat : Int) == (k.toNat : Int)) = (c == k) := by
  rw [Bool.eq_iff_iff]
  simp only [beq_iff_eq]
  constructor
  · intro h; exact UInt8.toNat_inj.1 (by omega)
  · rintro rfl; rfl
set_option maxHeartbeats 800000 in
theorem special_any (c : UInt8) (w : World) : Calls Tryd.prog 34 #[.int .u8 c.toNat] w fun e w' => e = .returned (.bool (spec c)) ∧ w' = w := by
  have hsp : spec c = (((c.toNat : Int) == 46) || ((c.toNat : Int) == 91) || ((c.toNat : Int) == 93) || ((c.toNat : Int) == 42) || ((c.toNat : Int) == 94) || ((c.toNat : Int) == 36) || ((c.toNat : Int) == 92)) := by
    unfold spec
    rw [← u8_eq c 46, ← u8_eq c 91, ← u8_eq c 93, ← u8_eq c 42, ← u8_eq c 94, ← u8_eq c 36, ← u8_eq c 92]
    rfl
  rw [hsp]
  clear hsp
  go_enter Tryd.func34, Tryd.ntmps34
  go_wp2
  all_goals go_ret
  all_goals refine ⟨ret_bool ?_, rfl⟩
  all_goals simp_all

theorem ext_one (w : ByteArray) (k : Nat) (h : k < w.size) : (w.extract k (k + 1)).data.toList = [w[k]] := by
  have e := extract_list w k (k + 1)
  rw [ByteArray.toList_eq] at e
  rw [e, show k + 1 - k = 1 by omega]
  have h' : k < w.data.toList.length := by simpa using h
  rw [List.drop_eq_getElem_cons h']
  simp
  rfl
theorem app_list (a b : ByteArray) : (a ++ b).data.toList = a.data.toList ++ b.data.toList := by simp [ByteArray.data_append]
theorem take_one (w : ByteArray) (k : Nat) (h : k < w.size) : w.data.toList.take (k + 1) = w.data.toList.take k ++ [w[k]] := by
  have h' : k < w.data.toList.length := by simpa using h
  rw [List.take_succ_eq_append_getElem h']
  rfl
set_option maxHeartbeats 1600000 in
theorem plain_any (s : ByteArray) (w : World) (hs : s.size ≤ 281474976710656) :
    Calls Tryd.prog 21 #[.string s] w fun e w' => (∃ p : ByteArray, e = .returned (.string p) ∧ p.data.toList = plainL s.data.toList) ∧ w' = w := by
  go_enter Tryd.func21, Tryd.ntmps21
  go_wp2
  go_loop [3, 4] (fun pv iv => ∃ (k : Nat) (p : ByteArray), iv = .int .i64 k ∧ pv = .string p ∧ k ≤ s.size ∧ p.size ≤ 2 * k ∧ Hid (p.data.toList = plainL (s.data.toList.take k))) (fun _ iv => s.size - (intOf iv).toNat)
  case atStart => exact ⟨0, ⟨#[]⟩, rfl, rfl, Nat.zero_le _, by simp [ByteArray.size], hd rfl⟩
  case round =>
    obtain ⟨k, p, rfl, rfl, hk, hp, HP⟩ := hrel
    by_cases hlt : k < s.size
    · have Hsp := hd (special_any s[k] w)
      have hk0 : (0 : Int) ≤ (k : Int) := by omega
      have hk1 : (k : Int) < (s.size : Int) := by omega
      have Hx := hd (ext_one s k hlt)
      have Ht := hd (take_one s k hlt)
      have hxs : (s.extract k (k + 1)).size = 1 := by
        rw [ByteArray.size_extract]
        omega
      cases hc : spec s[k]
      · rw [hc] at Hsp
        go_wp2_with (go_at_call 34; refine Hsp.out.mono ?_; rintro e w' ⟨rfl, rfl⟩)
        go_round
        case rel => exact ⟨k + 1, _, by go_num, rfl, by omega, by simp [ByteArray.size_append, hxs]; omega, hd (by rw [app_list, Hx.out, HP.out, Ht.out, plainL_app]; simp [plainL, hc])⟩
        case measure => simp [intOf]; omega
      · rw [hc] at Hsp
        go_wp2_with (go_at_call 34; refine Hsp.out.mono ?_; rintro e w' ⟨rfl, rfl⟩)
        go_round
        case rel => exact ⟨k + 1, _, by go_num, rfl, by omega, by simp [ByteArray.size_append, hxs]; show p.size + 1 + 1 ≤ _; omega, hd (by rw [app_list, app_list, Hx.out, HP.out, Ht.out, plainL_app]; simp [plainL, hc])⟩
        case measure => simp [intOf]; omega
    · go_wp2
      go_ret
      refine ⟨⟨p, rfl, ?_⟩, rfl⟩
      rw [HP.out, List.take_of_length_le (by rw [len_data]; omega)]
set_option maxHeartbeats 800000 in
theorem at_any (s t : ByteArray) (i : Nat) (w : World) (hs : s.size ≤ 2097152) (ht : t.size ≤ 2097152) (hi : i ≤ 1000000000) :
    Calls Tryd.prog 26 #[.string s, .int .i64 i, .string t] w fun e w' => e = .returned (.bool (decide (i + t.size ≤ s.size) && sw s.data.toList i t.data.toList)) ∧ w' = w := by
  by_cases h : i + t.size ≤ s.size
  · have h1 : (t.size : Int) ≤ (s.size : Int) - i := by omega
    have Hv : Hid (decide (i + t.size ≤ s.size) = true) := hd (by simpa using h)
    go_enter Tryd.func26, Tryd.ntmps26
    go_wp2
    go_ret
    refine ⟨ret_bool ?_, rfl⟩
    rw [sw_yes, Hv.out]
    rfl
  · have h1 : ¬ (t.size : Int) ≤ (s.size : Int) - i := by omega
    have Hv : Hid (decide (i + t.size ≤ s.size) = false) := hd (by simpa using h)
    go_enter Tryd.func26, Tryd.ntmps26
    go_wp2
    go_ret
    exact ⟨rfl, rfl⟩
def FitsPost (p s : ByteArray) (w w' : World) (e : Ending) : Prop := (∃ b : Bool, e = .returned (.bool b) ∧ (b = true → lfT p.data.toList = none ∧ p.size ≤ 60 ∧ s.size ≤ 1024)) ∧ w' = w
set_option maxHeartbeats 800000 in
theorem fits_any (p s : ByteArray) (w : World) (hp : p.size ≤ 1125899906842624) (hs : s.size ≤ 1125899906842624) :
    Calls Tryd.prog 22 #[.string p, .string s] w fun e w' => FitsPost p s w w' e := by
  go_enter Tryd.func22, Tryd.ntmps22
  go_wp2
  go_loop [5] (fun iv => ∃ k : Nat, iv = .int .i64 k ∧ k ≤ p.size ∧ Hid (∀ j, j < k → ch p.data.toList j ≠ 10)) (fun iv => p.size - (intOf iv).toNat)
  case atStart => exact ⟨0, rfl, Nat.zero_le _, hd (fun j hj => by omega)⟩
  case round =>
    obtain ⟨k, rfl, hk, HN⟩ := hrel
    by_cases hlt : k < p.size
    · have Hcg := hd (ch_get p k hlt)
      have hk0 : (0 : Int) ≤ (k : Int) := by omega
      have hk1 : (k : Int) < (p.size : Int) := by omega
      cases h10 : ((p[k].toNat : Int) == 10)
      · go_wp2
        go_round
        case rel => exact ⟨k + 1, by go_num, by omega, hd (fun j hj => by
          rcases Nat.lt_or_ge j k with h | h
          · exact HN.out j h
          · have e : j = k := by omega
            subst e
            rw [← Hcg.out]
            simp at h10
            omega)⟩
        case measure => simp [intOf]; omega
      · go_wp2
        go_ret
        exact ⟨⟨false, rfl, fun h => by cases h⟩, rfl⟩
    · have Hlf : Hid (lfT p.data.toList = none) := hd (lf_none (fun i hi => HN.out i (by rw [len_data] at hi; omega)))
      by_cases h1 : p.size ≤ 60
      · have h1I : (p.size : Int) ≤ 60 := by omega
        by_cases h2 : s.size ≤ 1024
        · have h2I : (s.size : Int) ≤ 1024 := by omega
          go_wp2
          go_ret
          exact ⟨⟨true, rfl, fun _ => ⟨Hlf.out, h1, h2⟩⟩, rfl⟩
        · have h2' : ¬ (s.size : Int) ≤ 1024 := by omega
          go_wp2
          go_ret
          exact ⟨⟨false, rfl, fun h => by cases h⟩, rfl⟩
      · have h1' : ¬ (p.size : Int) ≤ 60 := by omega
        go_wp2
        go_ret
        exact ⟨⟨false, rfl, fun h => by cases h⟩, rfl⟩
/-- does t stand in s at place i? -/
def atB (s t : List UInt8) (i : Nat) : Bool := decide (i + t.length ≤ s.length) && sw s i t
def FirstPost (R : Int → Prop) (w w' : World) (e : Ending) : Prop := (∃ r : Int, e = .returned (.int .i64 r) ∧ R r) ∧ w' = w
def FirstR (s t : List UInt8) (fr r : Int) : Prop :=
  (r = -1 ∧ ∀ i : Nat, fr ≤ i → i ≤ s.length → atB s t i = false) ∨ (∃ k : Nat, r = k ∧ fr ≤ k ∧ k ≤ s.length ∧ atB s t k = true ∧ ∀ i : Nat, fr ≤ i → i < k → atB s t i = false)
set_option maxHeartbeats 800000 in
theorem first_any (s t : ByteArray) (fr : Int) (w : World) (hs : s.size ≤ 2097152) (ht : t.size ≤ 2097152) (hf0 : -9223372036854775808 ≤ fr) (hf1 : fr ≤ 9223372036854775807) :
    Calls Tryd.prog 23 #[.string s, .string t, .int .i64 fr] w fun e w' => FirstPost (FirstR s.data.toList t.data.toList fr) w w' e := by
  by_cases hneg : fr < 0
  · go_enter Tryd.func23, Tryd.ntmps23
    go_wp2
    go_loop [7] (fun iv => ∃ k : Nat, iv = .int .i64 k ∧ fr ≤ k ∧ (k ≤ s.size + 1 ∨ fr = k) ∧ Hid (∀ i : Nat, fr ≤ i → i < k → atB s.data.toList t.data.toList i = false)) (fun iv => (s.size + 1) - (intOf iv).toNat)
    case atStart => exact ⟨0, rfl, by omega, .inl (by omega), hd (fun i h1 h2 => by omega)⟩
    case round =>
      obtain ⟨k, rfl, hfk, hks, HN⟩ := hrel
      by_cases hlt : k ≤ s.size
      · have hltI : (k : Int) ≤ (s.size : Int) := by omega
        have Hat := hd (at_any s t k w hs ht (by omega))
        have Hatb : Hid (atB s.data.toList t.data.toList k = (decide (k + t.size ≤ s.size) && sw s.data.toList k t.data.toList)) := by unfold atB; rw [len_data, len_data]; exact hd rfl
        cases hb : (decide (k + t.size ≤ s.size) && sw s.data.toList k t.data.toList)
        · rw [hb] at Hat
          go_wp2_with (go_at_call 26; refine Hat.out.mono ?_; rintro e w' ⟨rfl, rfl⟩)
          go_round
          case rel => exact ⟨k + 1, by go_num, by omega, .inl (by omega), hd (fun i h1 h2 => by
            rcases Nat.lt_or_ge i k with h | h
            · exact HN.out i h1 h
            · have e : i = k := by omega
              rw [e, Hatb.out, hb])⟩
          case measure => simp [intOf]; omega
        · rw [hb] at Hat
          go_wp2_with (go_at_call 26; refine Hat.out.mono ?_; rintro e w' ⟨rfl, rfl⟩)
          go_ret
          exact ⟨⟨k, rfl, .inr ⟨k, rfl, hfk, by rw [len_data]; exact hlt, by rw [Hatb.out, hb], HN.out⟩⟩, rfl⟩
      · have hltI : ¬ (k : Int) ≤ (s.size : Int) := by omega
        go_wp2
        go_ret
        exact ⟨⟨-1, rfl, .inl ⟨rfl, fun i h1 h2 => HN.out i h1 (by rw [len_data] at h2; omega)⟩⟩, rfl⟩
  · obtain ⟨f, rfl⟩ := Int.eq_ofNat_of_zero_le (show 0 ≤ fr by omega)
    have hf0' : (0 : Int) ≤ (f : Int) := by omega
    go_enter Tryd.func23, Tryd.ntmps23
    go_wp2
    go_loop [7] (fun iv => ∃ k : Nat, iv = .int .i64 k ∧ (f : Int) ≤ k ∧ (k ≤ s.size + 1 ∨ (f : Int) = k) ∧ Hid (∀ i : Nat, (f : Int) ≤ i → i < k → atB s.data.toList t.data.toList i = false)) (fun iv => (s.size + 1) - (intOf iv).toNat)
    case atStart => exact ⟨f, rfl, by omega, .inr rfl, hd (fun i h1 h2 => by omega)⟩
    case round =>
      obtain ⟨k, rfl, hfk, hks, HN⟩ := hrel
      by_cases hlt : k ≤ s.size
      · have hltI : (k : Int) ≤ (s.size : Int) := by omega
        have Hat := hd (at_any s t k w hs ht (by omega))
        have Hatb : Hid (atB s.data.toList t.data.toList k = (decide (k + t.size ≤ s.size) && sw s.data.toList k t.data.toList)) := by unfold atB; rw [len_data, len_data]; exact hd rfl
        cases hb : (decide (k + t.size ≤ s.size) && sw s.data.toList k t.data.toList)
        · rw [hb] at Hat
          go_wp2_with (go_at_call 26; refine Hat.out.mono ?_; rintro e w' ⟨rfl, rfl⟩)
          go_round
          case rel => exact ⟨k + 1, by go_num, by omega, .inl (by omega), hd (fun i h1 h2 => by
            rcases Nat.lt_or_ge i k with h | h
            · exact HN.out i h1 h
            · have e : i = k := by omega
              rw [e, Hatb.out, hb])⟩
          case measure => simp [intOf]; omega
        · rw [hb] at Hat
          go_wp2_with (go_at_call 26; refine Hat.out.mono ?_; rintro e w' ⟨rfl, rfl⟩)
          go_ret
          exact ⟨⟨k, rfl, .inr ⟨k, rfl, hfk, by rw [len_data]; exact hlt, by rw [Hatb.out, hb], HN.out⟩⟩, rfl⟩
      · have hltI : ¬ (k : Int) ≤ (s.size : Int) := by omega
        go_wp2
        go_ret
        exact ⟨⟨-1, rfl, .inl ⟨rfl, fun i h1 h2 => HN.out i h1 (by rw [len_data] at h2; omega)⟩⟩, rfl⟩
end Go.Proofs.YtldiemjlpnachaaDoor
