import Derived.Test.YtldiemjlpnachaaDoorEntr
/- A word, escaped: its reading, and where it is found. -/
namespace Go.Proofs.YtldiemjlpnachaaDoor
open Go.RowKit

def spec (c : UInt8) : Bool := c == 46 || c == 91 || c == 93 || c == 42 || c == 94 || c == 36 || c == 92
def plainL : List UInt8 → List UInt8
  | [] => []
  | c :: r => (if spec c then [92, c] else [c]) ++ plainL r
theorem plainL_app (a b : List UInt8) : plainL (a ++ b) = plainL a ++ plainL b := by
  induction a with
  | nil => rfl
  | cons c r ih => simp only [List.cons_append, plainL, ih, List.append_assoc]
/-- the items of a word -/
def wordI (w : List UInt8) : List It := w.map (fun c => itOne (addS noS c.toNat))
/-- a reader that has got through words -/
def wst (its : List It) (p : Nat) : St := { st0 with pos := p, inner := { st0.inner with items := its } }
theorem wst0 : wst [] 0 = st0 := rfl
theorem ch_at {pre r : List UInt8} {c : UInt8} : ch (pre ++ c :: r) pre.length = c.toNat := by
  unfold ch
  rw [List.getElem?_append_right (Nat.le_refl _)]
  simp
theorem ch_at1 {pre r : List UInt8} {c d : UInt8} : ch (pre ++ c :: d :: r) (pre.length + 1) = d.toNat := by
  unfold ch
  rw [List.getElem?_append_right (by omega)]
  simp
theorem spec_iff (c : UInt8) : spec c = true ↔ c.toNat ∈ [46, 91, 93, 42, 94, 36, 92] := by
  unfold spec
  have : ∀ k : UInt8, (c == k) = true ↔ c.toNat = k.toNat := fun k => by rw [beq_iff_eq]; exact UInt8.toNat_inj.symm
  simp only [Bool.or_eq_true, this]
  simp
  omega
theorem step_word1 {pre r : List UInt8} {c : UInt8} {its : List It} (hc : spec c = false) : stepT (pre ++ c :: r) (wst its pre.length) = (0, wst (its ++ [itOne (addS noS c.toNat)]) (pre.length + 1)) := by
  have hn : c.toNat ∉ [46, 91, 93, 42, 94, 36, 92] := fun h => by rw [(spec_iff c).2 h] at hc; cases hc
  simp only [List.mem_cons, List.not_mem_nil, or_false, not_or] at hn
  unfold stepT
  rw [show (wst its pre.length).pos = pre.length from rfl, ch_at, if_neg hn.2.2.2.2.2.2, if_neg hn.2.1, if_neg hn.1, if_neg (fun h => hn.2.2.2.2.1 h.1), if_neg (fun h => hn.2.2.2.2.2.1 h.1), if_neg (fun h => hn.2.2.2.1 h.1)]
  rfl
theorem step_word2 {pre r : List UInt8} {c : UInt8} {its : List It} (hc : spec c = true) : stepT (pre ++ 92 :: c :: r) (wst its pre.length) = (0, wst (its ++ [itOne (addS noS c.toNat)]) (pre.length + 2)) := by
  have hm := (spec_iff c).1 hc
  have hm' := hm
  simp only [List.mem_cons, List.not_mem_nil, or_false] at hm'
  unfold stepT
  rw [show (wst its pre.length).pos = pre.length from rfl, ch_at, if_pos (by decide)]
  unfold escT
  rw [show (wst its pre.length).pos = pre.length from rfl, ch_at1, if_neg (by simp), if_neg (by omega), if_neg (by omega), if_neg (by omega), if_neg (by omega), if_pos hm]
  rfl
theorem plainL_len : ∀ w : List UInt8, w.length ≤ (plainL w).length ∧ (plainL w).length ≤ 2 * w.length
  | [] => ⟨Nat.le_refl _, Nat.le_refl _⟩
  | c :: r => by
    obtain ⟨h1, h2⟩ := plainL_len r
    simp only [plainL, List.length_append, List.length_cons]
    split <;> simp <;> omega
/-- the reading goes through a word -/
theorem go_word (post : List UInt8) : ∀ (w pre : List UInt8) (its : List It) (f : Nat), (plainL w).length ≤ f →
    ∃ f', f ≤ f' + (plainL w).length ∧ goT (pre ++ (plainL w ++ post)) f (wst its pre.length) = goT (pre ++ (plainL w ++ post)) f' (wst (its ++ wordI w) (pre.length + (plainL w).length))
  | [], pre, its, f, _ => ⟨f, by simp [plainL], by simp [plainL, wordI]⟩
  | c :: r, pre, its, f, hf => by
    have hlen : (plainL (c :: r)).length = (if spec c then [92, c] else [c]).length + (plainL r).length := by rw [plainL, List.length_append]
    cases hc : spec c
    · have e : pre ++ (plainL (c :: r) ++ post) = (pre ++ [c]) ++ (plainL r ++ post) := by simp [plainL, hc]
      have e2 : pre ++ (plainL (c :: r) ++ post) = pre ++ c :: (plainL r ++ post) := by simp [plainL, hc]
      rw [hc] at hlen
      simp at hlen
      obtain ⟨f0, rfl⟩ : ∃ f0, f = f0 + 1 := ⟨f - 1, by omega⟩
      obtain ⟨f', h1, h2⟩ := go_word post r (pre ++ [c]) (its ++ [itOne (addS noS c.toNat)]) f0 (by omega)
      refine ⟨f', by omega, ?_⟩
      rw [goT_more (σ' := wst (its ++ [itOne (addS noS c.toNat)]) (pre.length + 1)) (by rw [e2]; show pre.length < _; simp) (by rw [e2]; exact step_word1 hc)]
      rw [← e] at h2
      rw [List.length_append, List.length_singleton] at h2
      rw [h2]
      congr 1
      · simp [wordI, wst]; omega
    · have e : pre ++ (plainL (c :: r) ++ post) = (pre ++ [92, c]) ++ (plainL r ++ post) := by simp [plainL, hc]
      have e2 : pre ++ (plainL (c :: r) ++ post) = pre ++ 92 :: c :: (plainL r ++ post) := by simp [plainL, hc]
      rw [hc] at hlen
      simp at hlen
      obtain ⟨f0, rfl⟩ : ∃ f0, f = f0 + 1 := ⟨f - 1, by omega⟩
      obtain ⟨f', h1, h2⟩ := go_word post r (pre ++ [92, c]) (its ++ [itOne (addS noS c.toNat)]) f0 (by omega)
      refine ⟨f', by omega, ?_⟩
      rw [goT_more (σ' := wst (its ++ [itOne (addS noS c.toNat)]) (pre.length + 2)) (by rw [e2]; show pre.length < _; simp) (by rw [e2]; exact step_word2 hc)]
      rw [← e] at h2
      have e3 : (pre ++ [92, c]).length = pre.length + 2 := by simp
      rw [e3] at h2
      rw [h2]
      congr 1
      · simp [wordI, wst]; omega
theorem rowGo_ones : ∀ (n : Nat) (m : Int), 0 ≤ m → m + n ≤ 200 → rowGo (List.replicate n 1) m = m + n
  | 0, m, _, _ => by simp [rowGo]
  | n + 1, m, h0, h => by
    rw [List.replicate_succ, rowGo, if_neg (by omega), rowGo_ones n (m + 1) (by omega) (by omega)]
    omega
theorem wordI_sz (w : List UInt8) : (wordI w).map (·.2) = List.replicate w.length 1 := by
  induction w with
  | nil => rfl
  | cons c r ih =>
    have : (wordI (c :: r)).map (·.2) = 1 :: (wordI r).map (·.2) := rfl
    rw [this, ih]; rfl
/-- THE READING OF A WORD, ESCAPED -/
theorem word_parse (w : List UInt8) (hl : (plainL w).length ≤ 60) (hlf : lfT (plainL w) = none) : (parseT (plainL w)).1 = 0 ∧ refT0 (plainL w) = [] ∧ itsT (plainL w) = wordI w := by
  obtain ⟨f', _, hg⟩ := go_word [] w [] [] 61 (by omega)
  simp only [List.append_nil, List.nil_append, List.length_nil, Nat.zero_add, wst0] at hg
  rw [goT_out (σ := wst (wordI w) (plainL w).length) (by show ¬ (plainL w).length < (plainL w).length; omega)] at hg
  have hw := (plainL_len w).1
  have hpr : parseR (plainL w) (goT (plainL w) 61 st0) = (0, 0, 0) := by
    rw [hg]
    refine parseR_ok (by omega) hlf rfl ?_
    show ¬ 200 < rowGo ((wordI w).map (·.2)) 1
    rw [wordI_sz, rowGo_ones _ _ (by omega) (by omega)]
    omega
  refine ⟨by unfold parseT; rw [hpr], by unfold refT0 refR; rw [hpr, if_pos rfl, hg]; rfl, by unfold itsT; rw [hg]; rfl⟩
/-- a word stands at a place -/
def stands (s : List UInt8) (i : Nat) (w : List UInt8) : Prop := (s.drop i).take w.length = w
theorem addS_no (c d : Nat) : addS noS c d = true ↔ d = c := by simp [addS, noS]
theorem word_row (s : List UInt8) : ∀ (w : List UInt8) (i j : Nat), i ≤ s.length → (MtRow s ((wordI w).map (·.3)) i j ↔ stands s i w ∧ j = i + w.length)
  | [], i, j, _ => by
    have : (wordI []).map (·.3) = [] := rfl
    rw [this]
    simp only [MtRow, stands, List.length_nil, List.take_zero, Nat.add_zero, true_and]
  | c :: r, i, j, hi => by
    have e : (wordI (c :: r)).map (·.3) = .one (addS noS c.toNat) :: (wordI r).map (·.3) := rfl
    rw [e]
    simp only [MtRow, Mt]
    constructor
    · rintro ⟨k, ⟨h1, h2, rfl⟩, h3⟩
      obtain ⟨h4, rfl⟩ := (word_row s r (i + 1) j (by omega)).1 h3
      rw [addS_no] at h2
      refine ⟨?_, by simp; omega⟩
      unfold stands at h4 ⊢
      rw [List.drop_eq_getElem_cons h1, List.length_cons, List.take_succ_cons, h4]
      congr 1
      have : ch s i = s[i].toNat := by unfold ch; rw [List.getElem?_eq_getElem h1]; rfl
      rw [this] at h2
      exact UInt8.toNat_inj.1 h2
    · rintro ⟨h1, rfl⟩
      unfold stands at h1
      have hil : i < s.length := by
        rcases Nat.lt_or_ge i s.length with h | h
        · exact h
        · rw [List.drop_eq_nil_of_le h] at h1; simp at h1
      rw [List.drop_eq_getElem_cons hil, List.length_cons, List.take_succ_cons] at h1
      injection h1 with h2 h3
      refine ⟨i + 1, ⟨hil, ?_, rfl⟩, (word_row s r (i + 1) _ (by omega)).2 ⟨h3, by simp; omega⟩⟩
      rw [addS_no]
      have : ch s i = s[i].toNat := by unfold ch; rw [List.getElem?_eq_getElem hil]; rfl
      rw [this, h2]
end Go.Proofs.YtldiemjlpnachaaDoor
namespace Go.Proofs.YtldiemjlpnachaaDoor
open Go.RowKit

theorem u8_eq (c k : UInt8) : ((c.toNat : Int) == (k.toNat : Int)) = (c == k) := by
  rw [Bool.eq_iff_iff]
  simp only [beq_iff_eq]
  constructor
  · intro h; exact UInt8.toNat_inj.1 (by omega)
  · rintro rfl; rfl
set_option maxHeartbeats 800000 in
theorem special_any (c : UInt8) (w : World) : Calls Tryd.prog 34 #[.int .u8 c.toNat] w fun e w' => e = .returned (.bool (spec c)) ∧ w' = w := by
  have hsp : spec c = (((c.toNat : Int) == 46) || ((c.toNat : Int) == 91) || ((c.toNat : Int) == 93) || ((c.toNat : Int) == 42) || ((c.toNat : Int) == 94) || ((c.toNat : Int) == 36) || ((c.toNat : Int) == 92)) := by
    unfold spec
    rw [← u8_eq c 46, ← u8_eq c 91, ← u8_eq c 93, ← u8_eq c 42, ← u8_eq c 94, ← u8_eq c 36, ← u8_eq c 92]
    rfl
  rw [hsp]
  clear hsp
  go_enter Tryd.func34, Tryd.ntmps34
  go_wp2
  all_goals go_ret
  all_goals refine ⟨ret_bool ?_, rfl⟩
  all_goals simp_all

theorem ext_one (w : ByteArray) (k : Nat) (h : k < w.size) : (w.extract k (k + 1)).data.toList = [w[k]] := by
  have e := extract_list w k (k + 1)
  rw [ByteArray.toList_eq] at e
  rw [e, show k + 1 - k = 1 by omega]
  have h' : k < w.data.toList.length := by simpa using h
  rw [List.drop_eq_getElem_cons h']
  simp
  rfl
theorem app_list (a b : ByteArray) : (a ++ b).data.toList = a.data.toList ++ b.data.toList := by simp [ByteArray.data_append]
theorem take_one (w : ByteArray) (k : Nat) (h : k < w.size) : w.data.toList.take (k + 1) = w.data.toList.take k ++ [w[k]] := by
  have h' : k < w.data.toList.length := by simpa using h
  rw [List.take_succ_eq_append_getElem h']
  rfl
set_option maxHeartbeats 1600000 in
theorem plain_any (s : ByteArray) (w : World) (hs : s.size ≤ 281474976710656) :
    Calls Tryd.prog 21 #[.string s] w fun e w' => (∃ p : ByteArray, e = .returned (.string p) ∧ p.data.toList = plainL s.data.toList) ∧ w' = w := by
  go_enter Tryd.func21, Tryd.ntmps21
  go_wp2
  go_loop [3, 4] (fun pv iv => ∃ (k : Nat) (p : ByteArray), iv = .int .i64 k ∧ pv = .string p ∧ k ≤ s.size ∧ p.size ≤ 2 * k ∧ Hid (p.data.toList = plainL (s.data.toList.take k))) (fun _ iv => s.size - (intOf iv).toNat)
  case atStart => exact ⟨0, ⟨#[]⟩, rfl, rfl, Nat.zero_le _, by simp [ByteArray.size], hd rfl⟩
  case round =>
    obtain ⟨k, p, rfl, rfl, hk, hp, HP⟩ := hrel
    by_cases hlt : k < s.size
    · have Hsp := hd (special_any s[k] w)
      have hk0 : (0 : Int) ≤ (k : Int) := by omega
      have hk1 : (k : Int) < (s.size : Int) := by omega
      have Hx := hd (ext_one s k hlt)
      have Ht := hd (take_one s k hlt)
      have hxs : (s.extract k (k + 1)).size = 1 := by
        rw [ByteArray.size_extract]
        omega
      cases hc : spec s[k]
      · rw [hc] at Hsp
        go_wp2_with (go_at_call 34; refine Hsp.out.mono ?_; rintro e w' ⟨rfl, rfl⟩)
        go_round
        case rel => exact ⟨k + 1, _, by go_num, rfl, by omega, by simp [ByteArray.size_append, hxs]; omega, hd (by rw [app_list, Hx.out, HP.out, Ht.out, plainL_app]; simp [plainL, hc])⟩
        case measure => simp [intOf]; omega
      · rw [hc] at Hsp
        go_wp2_with (go_at_call 34; refine Hsp.out.mono ?_; rintro e w' ⟨rfl, rfl⟩)
        go_round
        case rel => exact ⟨k + 1, _, by go_num, rfl, by omega, by simp [ByteArray.size_append, hxs]; show p.size + 1 + 1 ≤ _; omega, hd (by rw [app_list, app_list, Hx.out, HP.out, Ht.out, plainL_app]; simp [plainL, hc])⟩
        case measure => simp [intOf]; omega
    · go_wp2
      go_ret
      refine ⟨⟨p, rfl, ?_⟩, rfl⟩
      rw [HP.out, List.take_of_length_le (by rw [len_data]; omega)]
set_option maxHeartbeats 800000 in
theorem at_any (s t : ByteArray) (i : Nat) (w : World) (hs : s.size ≤ 2097152) (ht : t.size ≤ 2097152) (hi : i ≤ 1000000000) :
    Calls Tryd.prog 26 #[.string s, .int .i64 i, .string t] w fun e w' => e = .returned (.bool (decide (i + t.size ≤ s.size) && sw s.data.toList i t.data.toList)) ∧ w' = w := by
  by_cases h : i + t.size ≤ s.size
  · have h1 : (t.size : Int) ≤ (s.size : Int) - i := by omega
    have Hv : Hid (decide (i + t.size ≤ s.size) = true) := hd (by simpa using h)
    go_enter Tryd.func26, Tryd.ntmps26
    go_wp2
    go_ret
    refine ⟨ret_bool ?_, rfl⟩
    rw [sw_yes, Hv.out]
    rfl
  · have h1 : ¬ (t.size : Int) ≤ (s.size : Int) - i := by omega
    have Hv : Hid (decide (i + t.size ≤ s.size) = false) := hd (by simpa using h)
    go_enter Tryd.func26, Tryd.ntmps26
    go_wp2
    go_ret
    exact ⟨rfl, rfl⟩
def FitsPost (p s : ByteArray) (w w' : World) (e : Ending) : Prop := (∃ b : Bool, e = .returned (.bool b) ∧ (b = true → lfT p.data.toList = none ∧ p.size ≤ 60 ∧ s.size ≤ 1024)) ∧ w' = w
set_option maxHeartbeats 800000 in
theorem fits_any (p s : ByteArray) (w : World) (hp : p.size ≤ 1125899906842624) (hs : s.size ≤ 1125899906842624) :
    Calls Tryd.prog 22 #[.string p, .string s] w fun e w' => FitsPost p s w w' e := by
  go_enter Tryd.func22, Tryd.ntmps22
  go_wp2
  go_loop [5] (fun iv => ∃ k : Nat, iv = .int .i64 k ∧ k ≤ p.size ∧ Hid (∀ j, j < k → ch p.data.toList j ≠ 10)) (fun iv => p.size - (intOf iv).toNat)
  case atStart => exact ⟨0, rfl, Nat.zero_le _, hd (fun j hj => by omega)⟩
  case round =>
    obtain ⟨k, rfl, hk, HN⟩ := hrel
    by_cases hlt : k < p.size
    · have Hcg := hd (ch_get p k hlt)
      have hk0 : (0 : Int) ≤ (k : Int) := by omega
      have hk1 : (k : Int) < (p.size : Int) := by omega
      cases h10 : ((p[k].toNat : Int) == 10)
      · go_wp2
        go_round
        case rel => exact ⟨k + 1, by go_num, by omega, hd (fun j hj => by
          rcases Nat.lt_or_ge j k with h | h
          · exact HN.out j h
          · have e : j = k := by omega
            subst e
            rw [← Hcg.out]
            simp at h10
            omega)⟩
        case measure => simp [intOf]; omega
      · go_wp2
        go_ret
        exact ⟨⟨false, rfl, fun h => by cases h⟩, rfl⟩
    · have Hlf : Hid (lfT p.data.toList = none) := hd (lf_none (fun i hi => HN.out i (by rw [len_data] at hi; omega)))
      by_cases h1 : p.size ≤ 60
      · have h1I : (p.size : Int) ≤ 60 := by omega
        by_cases h2 : s.size ≤ 1024
        · have h2I : (s.size : Int) ≤ 1024 := by omega
          go_wp2
          go_ret
          exact ⟨⟨true, rfl, fun _ => ⟨Hlf.out, h1, h2⟩⟩, rfl⟩
        · have h2' : ¬ (s.size : Int) ≤ 1024 := by omega
          go_wp2
          go_ret
          exact ⟨⟨false, rfl, fun h => by cases h⟩, rfl⟩
      · have h1' : ¬ (p.size : Int) ≤ 60 := by omega
        go_wp2
        go_ret
        exact ⟨⟨false, rfl, fun h => by cases h⟩, rfl⟩
/-- does t stand in s at place i? -/
def atB (s t : List UInt8) (i : Nat) : Bool := decide (i + t.length ≤ s.length) && sw s i t
def FirstPost (R : Int → Prop) (w w' : World) (e : Ending) : Prop := (∃ r : Int, e = .returned (.int .i64 r) ∧ R r) ∧ w' = w
def FirstR (s t : List UInt8) (fr r : Int) : Prop :=
  (r = -1 ∧ ∀ i : Nat, fr ≤ i → i ≤ s.length → atB s t i = false) ∨ (∃ k : Nat, r = k ∧ fr ≤ k ∧ k ≤ s.length ∧ atB s t k = true ∧ ∀ i : Nat, fr ≤ i → i < k → atB s t i = false)
set_option maxHeartbeats 800000 in
theorem first_any (s t : ByteArray) (fr : Int) (w : World) (hs : s.size ≤ 2097152) (ht : t.size ≤ 2097152) (hf0 : -9223372036854775808 ≤ fr) (hf1 : fr ≤ 9223372036854775807) :
    Calls Tryd.prog 23 #[.string s, .string t, .int .i64 fr] w fun e w' => FirstPost (FirstR s.data.toList t.data.toList fr) w w' e := by
  by_cases hneg : fr < 0
  · go_enter Tryd.func23, Tryd.ntmps23
    go_wp2
    go_loop [7] (fun iv => ∃ k : Nat, iv = .int .i64 k ∧ fr ≤ k ∧ (k ≤ s.size + 1 ∨ fr = k) ∧ Hid (∀ i : Nat, fr ≤ i → i < k → atB s.data.toList t.data.toList i = false)) (fun iv => (s.size + 1) - (intOf iv).toNat)
    case atStart => exact ⟨0, rfl, by omega, .inl (by omega), hd (fun i h1 h2 => by omega)⟩
    case round =>
      obtain ⟨k, rfl, hfk, hks, HN⟩ := hrel
      by_cases hlt : k ≤ s.size
      · have hltI : (k : Int) ≤ (s.size : Int) := by omega
        have Hat := hd (at_any s t k w hs ht (by omega))
        have Hatb : Hid (atB s.data.toList t.data.toList k = (decide (k + t.size ≤ s.size) && sw s.data.toList k t.data.toList)) := by unfold atB; rw [len_data, len_data]; exact hd rfl
        cases hb : (decide (k + t.size ≤ s.size) && sw s.data.toList k t.data.toList)
        · rw [hb] at Hat
          go_wp2_with (go_at_call 26; refine Hat.out.mono ?_; rintro e w' ⟨rfl, rfl⟩)
          go_round
          case rel => exact ⟨k + 1, by go_num, by omega, .inl (by omega), hd (fun i h1 h2 => by
            rcases Nat.lt_or_ge i k with h | h
            · exact HN.out i h1 h
            · have e : i = k := by omega
              rw [e, Hatb.out, hb])⟩
          case measure => simp [intOf]; omega
        · rw [hb] at Hat
          go_wp2_with (go_at_call 26; refine Hat.out.mono ?_; rintro e w' ⟨rfl, rfl⟩)
          go_ret
          exact ⟨⟨k, rfl, .inr ⟨k, rfl, hfk, by rw [len_data]; exact hlt, by rw [Hatb.out, hb], HN.out⟩⟩, rfl⟩
      · have hltI : ¬ (k : Int) ≤ (s.size : Int) := by omega
        go_wp2
        go_ret
        exact ⟨⟨-1, rfl, .inl ⟨rfl, fun i h1 h2 => HN.out i h1 (by rw [len_data] at h2; omega)⟩⟩, rfl⟩
  · obtain ⟨f, rfl⟩ := Int.eq_ofNat_of_zero_le (show 0 ≤ fr by omega)
    have hf0' : (0 : Int) ≤ (f : Int) := by omega
    go_enter Tryd.func23, Tryd.ntmps23
    go_wp2
    go_loop [7] (fun iv => ∃ k : Nat, iv = .int .i64 k ∧ (f : Int) ≤ k ∧ (k ≤ s.size + 1 ∨ (f : Int) = k) ∧ Hid (∀ i : Nat, (f : Int) ≤ i → i < k → atB s.data.toList t.data.toList i = false)) (fun iv => (s.size + 1) - (intOf iv).toNat)
    case atStart => exact ⟨f, rfl, by omega, .inr rfl, hd (fun i h1 h2 => by omega)⟩
    case round =>
      obtain ⟨k, rfl, hfk, hks, HN⟩ := hrel
      by_cases hlt : k ≤ s.size
      · have hltI : (k : Int) ≤ (s.size : Int) := by omega
        have Hat := hd (at_any s t k w hs ht (by omega))
        have Hatb : Hid (atB s.data.toList t.data.toList k = (decide (k + t.size ≤ s.size) && sw s.data.toList k t.data.toList)) := by unfold atB; rw [len_data, len_data]; exact hd rfl
        cases hb : (decide (k + t.size ≤ s.size) && sw s.data.toList k t.data.toList)
        · rw [hb] at Hat
          go_wp2_with (go_at_call 26; refine Hat.out.mono ?_; rintro e w' ⟨rfl, rfl⟩)
          go_round
          case rel => exact ⟨k + 1, by go_num, by omega, .inl (by omega), hd (fun i h1 h2 => by
            rcases Nat.lt_or_ge i k with h | h
            · exact HN.out i h1 h
            · have e : i = k := by omega
              rw [e, Hatb.out, hb])⟩
          case measure => simp [intOf]; omega
        · rw [hb] at Hat
          go_wp2_with (go_at_call 26; refine Hat.out.mono ?_; rintro e w' ⟨rfl, rfl⟩)
          go_ret
          exact ⟨⟨k, rfl, .inr ⟨k, rfl, hfk, by rw [len_data]; exact hlt, by rw [Hatb.out, hb], HN.out⟩⟩, rfl⟩
      · have hltI : ¬ (k : Int) ≤ (s.size : Int) := by omega
        go_wp2
        go_ret
        exact ⟨⟨-1, rfl, .inl ⟨rfl, fun i h1 h2 => HN.out i h1 (by rw [len_data] at h2; omega)⟩⟩, rfl⟩
end Go.Proofs.YtldiemjlpnachaaDoor
namespace Go.Proofs.YtldiemjlpnachaaDoor
open Go.RowKit

theorem atB_iff {s t : List UInt8} {i : Nat} (hi : i ≤ s.length) : atB s t i = true ↔ stands s i t := by
  unfold atB stands sw
  rw [Bool.and_eq_true, decide_eq_true_eq, beq_iff_eq]
  constructor
  · exact fun h => h.2
  · intro h
    refine ⟨?_, h⟩
    have := congrArg List.length h
    simp at this
    omega
/-- what Find answers of a word -/
theorem word_found (u s : List UInt8) (its : List It) (hits : its = wordI u) (fr i : Int) (hr : (0 ≤ fr ∧ fr ≤ s.length) → FirstR s u fr i) (ho : ¬ (0 ≤ fr ∧ fr ≤ s.length) → i = -1) (j : Int) (hj : j = i + u.length) :
    ∀ fd a b, FindRes s.length (fun x y => MtRow s (its.map (·.3)) x y) fr fd a b → if i < 0 then fd = false ∧ a = 0 ∧ b = 0 else fd = true ∧ (a : Int) = i ∧ (b : Int) = j := by
  intro fd a b h
  subst hits
  by_cases hin : 0 ≤ fr ∧ fr ≤ s.length
  · have hb := h.1 hin
    rcases hr hin with ⟨rfl, hno⟩ | ⟨k, rfl, h1, h2, h3, h4⟩
    · rw [if_pos (by omega)]
      have : Best s.length (fun x y => MtRow s ((wordI u).map (·.3)) x y) fr.toNat false 0 0 := ⟨(fun h => by cases h), fun _ => ⟨rfl, rfl, fun x y g1 g2 g3 => by
        have g4 := (atB_iff g2).2 ((word_row s u x y g2).1 g3).1
        rw [hno x (by omega) g2] at g4
        cases g4⟩⟩
      obtain ⟨e1, e2, e3⟩ := hb.uniq this
      exact ⟨e1, e2, e3⟩
    · rw [if_neg (by omega)]
      have : Best s.length (fun x y => MtRow s ((wordI u).map (·.3)) x y) fr.toNat true k (k + u.length) := ⟨fun _ => ⟨by omega, h2, (word_row s u k _ h2).2 ⟨(atB_iff h2).1 h3, rfl⟩, fun x y g1 g2 g3 => by
        obtain ⟨g4, rfl⟩ := (word_row s u x y g2).1 g3
        have g5 := (atB_iff g2).2 g4
        rcases Nat.lt_or_ge x k with hlt | hge
        · rw [h4 x (by omega) hlt] at g5; cases g5
        · exact ⟨hge, fun e => by omega⟩⟩, fun h => by cases h⟩
      obtain ⟨e1, e2, e3⟩ := hb.uniq this
      exact ⟨e1, by omega, by omega⟩
  · obtain ⟨e1, e2, e3⟩ := h.2 hin
    have := ho hin
    rw [if_pos (by omega)]
    exact ⟨e1, e2, e3⟩

set_option maxHeartbeats 1600000 in
theorem literal_any (u s : ByteArray) (fr : Int) (w : World) (hn : NamesIn w) (hu : u.size ≤ 140737488351232) (hs : s.size ≤ 140737488351232) (hf0 : -9223372036854775808 ≤ fr) (hf1 : fr ≤ 9223372036854775807) :
    Calls Tryd.prog 9 #[.string u, .string s, .int .i64 fr] w fun e w' => e = .returned (.bool true) ∧ Below w.heap.size w w' := by
  have Hn := hd hn
  have Hpl := hd (plain_any u w (by omega))
  clear hn
  go_enter Tryd.func9, Tryd.ntmps9
  go_wp2_with fail
  refine Hpl.out.mono ?_
  rintro e w1 ⟨⟨p, rfl, hp⟩, rfl⟩
  have hps : p.size ≤ 281474976702464 := by
    have h1 := (plainL_len u.data.toList).2
    rw [← hp, len_data, len_data] at h1
    omega
  have Hfi := hd (fits_any p s w1 (by omega) (by omega))
  have Hp := hd hp
  clear hp
  go_wp2_with fail
  refine Hfi.out.mono ?_
  rintro e w2 ⟨⟨b, rfl, hb⟩, rfl⟩
  cases b
  · go_wp2
    go_ret
    exact ⟨rfl, Below.refl _ _⟩
  · obtain ⟨hlf, hp60, hs1024⟩ := hb rfl
    have hpl : (plainL u.data.toList).length ≤ 60 := by rw [← Hp.out, len_data]; exact hp60
    have Hpar := hd (word_parse u.data.toList hpl (by rw [← Hp.out]; exact hlf))
    have hul : u.size ≤ 60 := by
      have h1 := (plainL_len u.data.toList).1
      rw [len_data] at h1
      omega
    have Hft := hd (first_any s u fr w2 (by omega) (by omega) hf0 hf1)
    clear hlf hb hpl
    go_wp2_with fail
    refine Hft.out.mono ?_
    rintro e w3 ⟨⟨r, rfl, hr⟩, rfl⟩
    have Hfound : Hid (∀ (i j : Int), ((0 ≤ fr ∧ fr ≤ s.data.toList.length) → FirstR s.data.toList u.data.toList fr i) → (¬ (0 ≤ fr ∧ fr ≤ s.data.toList.length) → i = -1) → j = i + u.size → Calls Tryd.prog 24 #[.string p, .string s, .int .i64 fr, .int .i64 i, .int .i64 j] w3 fun e w' => e = .returned (.bool true) ∧ Below w3.heap.size w3 w') := by
      refine hd (fun i j h1 h2 h3 => ?_)
      refine found_any p s fr i j w3 Hn.out (by unfold maxLen; omega) (by omega) (by rw [Hp.out]; exact Hpar.out.1) (by rw [Hp.out]; exact Hpar.out.2.1) ?_
      exact word_found u.data.toList s.data.toList _ (by rw [Hp.out]; exact Hpar.out.2.2) fr i h1 h2 j (by rw [len_data]; exact h3)
    have hrb : -1 ≤ r ∧ r ≤ 1024 := by
      rcases hr with ⟨rfl, _⟩ | ⟨k, rfl, _, h2, _⟩
      · omega
      · rw [len_data] at h2; omega
    have Hr := hd hr
    clear hr
    by_cases hin : 0 ≤ fr ∧ fr ≤ s.size
    · obtain ⟨h1, h2⟩ := hin
      have h1' : ¬ fr < 0 := by omega
      have h2' : ¬ (s.size : Int) < fr := by omega
      have Hc := hd (Hfound.out r (r + u.size) (fun _ => Hr.out) (fun h => absurd ⟨h1, by rw [len_data]; exact h2⟩ h) rfl)
      go_wp2_with fail
      refine Hc.out.mono ?_
      rintro e w4 ⟨rfl, hb4⟩
      go_wp2
      go_ret
      exact ⟨rfl, hb4⟩
    · have Hc := hd (Hfound.out (-1) (-1 + u.size) (fun h => absurd ⟨h.1, by rw [← len_data]; exact h.2⟩ hin) (fun _ => rfl) rfl)
      by_cases h1 : fr < 0
      · go_wp2_with fail
        refine Hc.out.mono ?_
        rintro e w4 ⟨rfl, hb4⟩
        go_wp2
        go_ret
        exact ⟨rfl, hb4⟩
      · have h2 : (s.size : Int) < fr := by omega
        go_wp2_with fail
        refine Hc.out.mono ?_
        rintro e w4 ⟨rfl, hb4⟩
        go_wp2
        go_ret
        exact ⟨rfl, hb4⟩
end Go.Proofs.YtldiemjlpnachaaDoor
