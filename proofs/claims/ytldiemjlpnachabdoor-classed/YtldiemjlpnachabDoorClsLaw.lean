import Derived.Test.YtldiemjlpnachabDoorCls
import Derived.Laws.IdiomStrings
namespace Go.Proofs.YtldiemjlpnachabDoor
open Go.RowKit

theorem str_of (w : World) (vs : Array Value) (l : List UInt8) (n : Nat) (hn : n = l.length) (hv : vs = (l.map (fun b => Value.int .u8 (b.toNat : Int))).toArray) (g : Nat) (hg : g = w.heap.size) :
    (convert 23 9 (.slice (some ⟨g, 0, none⟩) n n)).run Tryd.prog (w.alloc (.cells vs 5)) = .ok (.string ⟨l.toArray⟩) (w.alloc (.cells vs 5)) := by
  subst hn hg
  refine run_convert_bytes_back (P := Tryd.prog) _ 23 9 5 ⟨w.heap.size, 0, none⟩ l.length l Tryd.underlying23 Tryd.underlying5 Tryd.underlying9 (fun j hj => ?_)
  have : (⟨w.heap.size, 0, none⟩ : Addr).add j = ⟨w.heap.size, j, none⟩ := by unfold Addr.add; split <;> simp_all
  rw [this, hv]
  simp [hj]
theorem u8_ne {A : UInt8} {n : Nat} (k : UInt8) (h : A.toNat = n) (hk : n ≠ k.toNat) : A ≠ k := by
  rintro rfl
  exact hk h.symm
set_option maxHeartbeats 3200000 in
set_option maxRecDepth 100000 in
theorem classed_any (lo hi c : Int) (w : World) (hn : NamesIn w) (hl : -9223372036854775808 ≤ lo ∧ lo ≤ 9223372036854775807) (hh : -9223372036854775808 ≤ hi ∧ hi ≤ 9223372036854775807) (hc : -9223372036854775808 ≤ c ∧ c ≤ 9223372036854775807) :
    Calls Tryd.prog 3 #[.int .i64 lo, .int .i64 hi, .int .i64 c] w fun e w' => e = .returned (.bool true) ∧ Below w.heap.size w w' := by
  have Hn := hd hn
  clear hn
  go_enter Tryd.func3, Tryd.ntmps3
  go_wp2_with fail
  refine (pick_any _ _ _ hl.1 hl.2 (by decide) (by decide)).mono ?_
  rintro e w1 ⟨⟨a, rfl, ha⟩, rfl⟩
  go_wp2_with fail
  refine (pick_any _ _ _ hh.1 hh.2 (by decide) (by decide)).mono ?_
  rintro e w1 ⟨⟨b, rfl, hb⟩, rfl⟩
  go_wp2_with fail
  refine (pick_any _ _ _ hc.1 hc.2 (by decide) (by decide)).mono ?_
  rintro e w1 ⟨⟨x, rfl, hx⟩, rfl⟩
  obtain ⟨A, hA⟩ : ∃ A : UInt8, A.toNat = 48 + a := ⟨UInt8.ofNat (48 + a), by simp; omega⟩
  obtain ⟨B, hB⟩ : ∃ B : UInt8, B.toNat = 48 + b := ⟨UInt8.ofNat (48 + b), by simp; omega⟩
  obtain ⟨X, hX⟩ : ∃ X : UInt8, X.toNat = x := ⟨UInt8.ofNat x, by simp; omega⟩
  have eA : (A.toNat : Int) = 48 + (a : Int) := by omega
  have eB : (B.toNat : Int) = 48 + (b : Int) := by omega
  have eX : (X.toNat : Int) = (x : Int) := by omega
  have hcv3 : (convert 23 9 (.slice (some ⟨w1.heap.size, 0, none⟩) 3 3)).run Tryd.prog (w1.alloc (.cells #[.int .u8 (48 + (a : Int)), .int .u8 45, .int .u8 (48 + (b : Int))] 5)) = .ok (.string ⟨#[A, 45, B]⟩) (w1.alloc (.cells #[.int .u8 (48 + (a : Int)), .int .u8 45, .int .u8 (48 + (b : Int))] 5)) :=
    str_of w1 _ [A, 45, B] 3 rfl (by simp [eA, eB]) _ rfl
  have hcv1 : (convert 23 9 (.slice (some ⟨w1.heap.size + 1, 0, none⟩) 1 1)).run Tryd.prog ((w1.alloc (.cells #[.int .u8 (48 + (a : Int)), .int .u8 45, .int .u8 (48 + (b : Int))] 5)).alloc (.cells #[.int .u8 (x : Int)] 5)) = .ok (.string ⟨#[X]⟩) ((w1.alloc (.cells #[.int .u8 (48 + (a : Int)), .int .u8 45, .int .u8 (48 + (b : Int))] 5)).alloc (.cells #[.int .u8 (x : Int)] 5)) :=
    str_of _ _ [X] 1 rfl (by simp [eX]) _ (by simp)
  have HA := hd hA
  have HB := hd hB
  have HX := hd hX
  clear hA hB hX eA eB eX
  by_cases k1 : b < a
  · go_wp2
    go_ret
    exact ⟨rfl, Below.refl _ _⟩
  by_cases k2 : a = 45
  · have h2 : ((48 : Int) + a == 93) = true := by rw [beq_iff_eq]; omega
    clear hcv1 hcv3
    subst k2
    go_wp2
    all_goals go_ret
    all_goals exact ⟨rfl, Below.refl _ _⟩
  have h2 : ((48 : Int) + a == 93) = false := by rw [beq_eq_false_iff_ne]; omega
  by_cases k3 : b = 45
  · have h3 : ((48 : Int) + b == 93) = true := by rw [beq_iff_eq]; omega
    clear hcv1 hcv3
    subst k3
    go_wp2
    all_goals go_ret
    all_goals exact ⟨rfl, Below.refl _ _⟩
  have h3 : ((48 : Int) + b == 93) = false := by rw [beq_eq_false_iff_ne]; omega
  by_cases k4 : a = 43
  · have h4 : ((48 : Int) + a == 91) = true := by rw [beq_iff_eq]; omega
    clear hcv1 hcv3
    subst k4
    go_wp2
    all_goals go_ret
    all_goals exact ⟨rfl, Below.refl _ _⟩
  have h4 : ((48 : Int) + a == 91) = false := by rw [beq_eq_false_iff_ne]; omega
  by_cases k5 : b = 43
  · have h5 : ((48 : Int) + b == 91) = true := by rw [beq_iff_eq]; omega
    clear hcv1 hcv3
    subst k5
    go_wp2
    all_goals go_ret
    all_goals exact ⟨rfl, Below.refl _ _⟩
  have h5 : ((48 : Int) + b == 91) = false := by rw [beq_eq_false_iff_ne]; omega
  by_cases k6 : a = 46
  · have h6 : ((48 : Int) + a == 94) = true := by rw [beq_iff_eq]; omega
    clear hcv1 hcv3
    subst k6
    go_wp2
    all_goals go_ret
    all_goals exact ⟨rfl, Below.refl _ _⟩
  have h6 : ((48 : Int) + a == 94) = false := by rw [beq_eq_false_iff_ne]; omega
  by_cases k7 : a = 44
  · have h7 : ((48 : Int) + a == 92) = true := by rw [beq_iff_eq]; omega
    clear hcv1 hcv3
    subst k7
    go_wp2
    all_goals go_ret
    all_goals exact ⟨rfl, Below.refl _ _⟩
  have h7 : ((48 : Int) + a == 92) = false := by rw [beq_eq_false_iff_ne]; omega
  by_cases k8 : b = 44
  · have h8 : ((48 : Int) + b == 92) = true := by rw [beq_iff_eq]; omega
    clear hcv1 hcv3
    subst k8
    go_wp2
    all_goals go_ret
    all_goals exact ⟨rfl, Below.refl _ _⟩
  have h8 : ((48 : Int) + b == 92) = false := by rw [beq_eq_false_iff_ne]; omega
  have hab : A ≤ B := UInt8.le_iff_toNat_le.2 (by rw [HA.out, HB.out]; omega)
  have Hpos := hd (brac_pos A B hab (u8_ne 93 HA.out (by show 48 + a ≠ 93; omega)) (u8_ne 93 HB.out (by show 48 + b ≠ 93; omega)) (u8_ne 91 HA.out (by show 48 + a ≠ 91; omega)) (u8_ne 91 HB.out (by show 48 + b ≠ 91; omega)) (u8_ne 94 HA.out (by show 48 + a ≠ 94; omega)) (u8_ne 10 HA.out (by show 48 + a ≠ 10; omega)) (u8_ne 10 HB.out (by show 48 + b ≠ 10; omega)))
  have Hneg := hd (brac_neg A B hab (u8_ne 93 HA.out (by show 48 + a ≠ 93; omega)) (u8_ne 93 HB.out (by show 48 + b ≠ 93; omega)) (u8_ne 91 HA.out (by show 48 + a ≠ 91; omega)) (u8_ne 91 HB.out (by show 48 + b ≠ 91; omega)) (u8_ne 10 HA.out (by show 48 + a ≠ 10; omega)) (u8_ne 10 HB.out (by show 48 + b ≠ 10; omega)))
  clear hab
  have Hn2 := hd ((Hn.out.alloc (.cells #[.int .u8 (48 + (a : Int)), .int .u8 45, .int .u8 (48 + (b : Int))] 5)).alloc (.cells #[.int .u8 (x : Int)] 5))
  have Hb2 := hd (((Below.refl w1.heap.size w1).alloc (Nat.le_refl _) (.cells #[.int .u8 (48 + (a : Int)), .int .u8 45, .int .u8 (48 + (b : Int))] 5)).alloc (by simp) (.cells #[.int .u8 (x : Int)] 5))
  by_cases hin : 48 + a ≤ x ∧ x ≤ 48 + b
  · obtain ⟨i1, i2⟩ := hin
    have j1 : (48 : Int) + a ≤ x := by omega
    have j2 : (x : Int) ≤ 48 + b := by omega
    have HXa := HA.out
    have HXb := HB.out
    have HXx := HX.out
    have hXlt := X.toNat_lt
    go_wp2_with fail
    refine (found_at _ _ [91, A, 45, B, 93] [X] _ _ _ _ (by simp) rfl Hn2.out (by simp [maxLen]) (by simp) Hpos.out.1 Hpos.out.2.1 (one_found (x := X) Hpos.out.2.2 0 1 (.inl ⟨by simp [addR, noS]; omega, rfl, rfl⟩))).mono ?_
    rintro e w2 ⟨rfl, hb2⟩
    have Hn3 := hd (Hn2.out.below hb2 Hn2.out.lt)
    have Hb3 := hd (Hb2.out.trans (hb2.mono Hb2.out.size))
    clear hb2
    go_wp2_with fail
    refine (found_at _ _ [91, 94, A, 45, B, 93] [X] _ _ _ _ (by simp) rfl Hn3.out (by simp [maxLen]) (by simp) Hneg.out.1 Hneg.out.2.1 (one_found (x := X) Hneg.out.2.2 (-1) 1 (.inr ⟨by simp [invS, addR, noS]; omega, by omega⟩))).mono ?_
    rintro e w3 ⟨rfl, hb3⟩
    have Hn4 := hd (Hn3.out.below hb3 Hn3.out.lt)
    have Hb4 := hd (Hb3.out.trans (hb3.mono Hb3.out.size))
    clear hb3
    go_wp2_with fail
    refine (found_at _ _ [46] [X] _ _ _ _ rfl rfl Hn4.out (by simp [maxLen]) (by simp) dot_pat.1 dot_pat.2.1 (one_found (x := X) dot_pat.2.2 0 1 (.inl ⟨by simp [addR, noS]; omega, rfl, rfl⟩))).mono ?_
    rintro e w4 ⟨rfl, hb4⟩
    have Hb5 := hd (Hb4.out.trans (hb4.mono Hb4.out.size))
    clear hb4
    go_wp2
    go_ret
    exact ⟨rfl, Hb5.out⟩
  · by_cases j1 : 48 + a ≤ x
    · have j1I : (48 : Int) + a ≤ x := by omega
      have j2 : ¬ (x : Int) ≤ 48 + b := by omega
      have hdx : decide ((x : Int) ≤ 48 + b) = false := by rw [decide_eq_false_iff_not]; exact j2
      have HXa := HA.out
      have HXb := HB.out
      have HXx := HX.out
      have hXlt := X.toNat_lt
      go_wp2_with fail
      refine (found_at _ _ [91, A, 45, B, 93] [X] _ _ _ _ (by simp) rfl Hn2.out (by simp [maxLen]) (by simp) Hpos.out.1 Hpos.out.2.1 (one_found (x := X) Hpos.out.2.2 (-1) 1 (.inr ⟨by simp [addR, noS]; omega, by omega⟩))).mono ?_
      rintro e w2 ⟨rfl, hb2⟩
      have Hn3 := hd (Hn2.out.below hb2 Hn2.out.lt)
      have Hb3 := hd (Hb2.out.trans (hb2.mono Hb2.out.size))
      clear hb2
      go_wp2_with fail
      refine (found_at _ _ [91, 94, A, 45, B, 93] [X] _ _ _ _ (by simp) rfl Hn3.out (by simp [maxLen]) (by simp) Hneg.out.1 Hneg.out.2.1 (one_found (x := X) Hneg.out.2.2 0 1 (.inl ⟨by simp [invS, addR, noS]; omega, rfl, rfl⟩))).mono ?_
      rintro e w3 ⟨rfl, hb3⟩
      have Hn4 := hd (Hn3.out.below hb3 Hn3.out.lt)
      have Hb4 := hd (Hb3.out.trans (hb3.mono Hb3.out.size))
      clear hb3
      go_wp2_with fail
      refine (found_at _ _ [46] [X] _ _ _ _ rfl rfl Hn4.out (by simp [maxLen]) (by simp) dot_pat.1 dot_pat.2.1 (one_found (x := X) dot_pat.2.2 0 1 (.inl ⟨by simp [addR, noS]; omega, rfl, rfl⟩))).mono ?_
      rintro e w4 ⟨rfl, hb4⟩
      have Hb5 := hd (Hb4.out.trans (hb4.mono Hb4.out.size))
      clear hb4
      go_wp2
      go_ret
      exact ⟨rfl, Hb5.out⟩
    · have j1I : ¬ (48 : Int) + a ≤ x := by omega
      have HXa := HA.out
      have HXb := HB.out
      have HXx := HX.out
      have hXlt := X.toNat_lt
      go_wp2_with fail
      refine (found_at _ _ [91, A, 45, B, 93] [X] _ _ _ _ (by simp) rfl Hn2.out (by simp [maxLen]) (by simp) Hpos.out.1 Hpos.out.2.1 (one_found (x := X) Hpos.out.2.2 (-1) 1 (.inr ⟨by simp [addR, noS]; omega, by omega⟩))).mono ?_
      rintro e w2 ⟨rfl, hb2⟩
      have Hn3 := hd (Hn2.out.below hb2 Hn2.out.lt)
      have Hb3 := hd (Hb2.out.trans (hb2.mono Hb2.out.size))
      clear hb2
      go_wp2_with fail
      refine (found_at _ _ [91, 94, A, 45, B, 93] [X] _ _ _ _ (by simp) rfl Hn3.out (by simp [maxLen]) (by simp) Hneg.out.1 Hneg.out.2.1 (one_found (x := X) Hneg.out.2.2 0 1 (.inl ⟨by simp [invS, addR, noS]; omega, rfl, rfl⟩))).mono ?_
      rintro e w3 ⟨rfl, hb3⟩
      have Hn4 := hd (Hn3.out.below hb3 Hn3.out.lt)
      have Hb4 := hd (Hb3.out.trans (hb3.mono Hb3.out.size))
      clear hb3
      go_wp2_with fail
      refine (found_at _ _ [46] [X] _ _ _ _ rfl rfl Hn4.out (by simp [maxLen]) (by simp) dot_pat.1 dot_pat.2.1 (one_found (x := X) dot_pat.2.2 0 1 (.inl ⟨by simp [addR, noS]; omega, rfl, rfl⟩))).mono ?_
      rintro e w4 ⟨rfl, hb4⟩
      have Hb5 := hd (Hb4.out.trans (hb4.mono Hb4.out.size))
      clear hb4
      go_wp2
      go_ret
      exact ⟨rfl, Hb5.out⟩
end Go.Proofs.YtldiemjlpnachabDoor
