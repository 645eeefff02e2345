import Derived.Test.YtldiemjlpnachabDoorPm
import Derived.Test.YtldiemjlpnachabDoorNu
import Derived.BigQuiet
/- Parted: the law. -/
namespace Go.Proofs.YtldiemjlpnachabDoor
open Go.RowKit

set_option maxRecDepth 100000 in
set_option maxHeartbeats 3200000 in
theorem parted_bad (w : World) (p t : ByteArray) (hn : NamesIn w) (ht : Tb w) (hp : p.size ≤ maxLen) (hts : t.size ≤ maxLen) (hbad : 4000 < t.size ∨ (parseT p.data.toList).1 ≠ 0) :
    Calls Tryd.prog 4 #[.string p, .string t] w fun e w' => e = .returned (.bool true) ∧ Below w.heap.size w w' := by
  have Hal := hd (alive_any w hn ht)
  have HE : Hid (∀ o, grepE p.data.toList t.data.toList o = ([], 2)) := hd (fun o => grepE_bad o (by rw [len_data]; exact hbad))
  have Hn := hd hn
  have Ht := hd ht
  have Hbad := hd hbad
  clear hn ht hbad
  go_enter Tryd.func4, Tryd.ntmps4
  go_wp2_with fail
  refine Hal.out.mono ?_
  rintro e0 w0 ⟨rfl, hb0⟩
  have HB0 := hd hb0
  have Hc := hd (compile_any p w0 (Hn.out.below hb0 Hn.out.lt) hp)
  clear hb0 Hal
  go_wp2_with fail
  refine Hc.out.mono ?_
  rintro e1 w1 ⟨hb1, hh⟩
  have HB1 := hd (HB0.out.trans (hb1.mono HB0.out.size))
  clear hb1 HB0 Hc
  obtain ⟨pv, ev, qv, rfl, hev⟩ : ∃ pv ev qv, e1 = .returned (.tuple #[pv, .int .i64 ev, qv]) ∧ (ev = 0 ↔ (parseT p.data.toList).1 = 0) := by
    rcases hh with ⟨he, g, hg, rfl, hpi⟩ | ⟨he, rfl⟩
    · exact ⟨_, 0, _, rfl, by simp [he]⟩
    · exact ⟨_, _, _, rfl, by simp⟩
  clear hh
  have Hg2 := hd (ggrep_any p t ⟨false, false, false, false⟩ w1 (Hn.out.below HB1.out Hn.out.lt) (Ht.out.below HB1.out Ht.out.lt) hp hts)
  go_wp2_with fail
  refine Hg2.out.mono ?_
  rintro e2 w2 ⟨hb2, A, rfl, hA⟩
  rw [HE.out] at hA
  rw [HE.out]
  obtain rfl := data_inj hA
  have HB2 := hd (HB1.out.trans (hb2.mono HB1.out.size))
  clear hb2 hA Hg2 HB1
  have Hg3 := hd (ggrep_any p t ⟨false, true, false, false⟩ w2 (Hn.out.below HB2.out Hn.out.lt) (Ht.out.below HB2.out Ht.out.lt) hp hts)
  go_wp2_with fail
  refine Hg3.out.mono ?_
  rintro e3 w3 ⟨hb3, B, rfl, hB⟩
  rw [HE.out] at hB
  rw [HE.out]
  obtain rfl := data_inj hB
  have HB3 := hd (HB2.out.trans (hb3.mono HB2.out.size))
  clear hb3 hB Hg3 HB2
  have Hg4 := hd (ggrep_any p t ⟨false, false, true, false⟩ w3 (Hn.out.below HB3.out Hn.out.lt) (Ht.out.below HB3.out Ht.out.lt) hp hts)
  go_wp2_with fail
  refine Hg4.out.mono ?_
  rintro e4 w4 ⟨hb4, C, rfl, hC⟩
  rw [HE.out] at hC
  rw [HE.out]
  obtain rfl := data_inj hC
  have HB4 := hd (HB3.out.trans (hb4.mono HB3.out.size))
  clear hb4 hC Hg4 HB3
  have Hg5 := hd (ggrep_any p t ⟨false, true, true, false⟩ w4 (Hn.out.below HB4.out Hn.out.lt) (Ht.out.below HB4.out Ht.out.lt) hp hts)
  go_wp2_with fail
  refine Hg5.out.mono ?_
  rintro e5 w5 ⟨hb5, D, rfl, hD⟩
  rw [HE.out] at hD
  rw [HE.out]
  obtain rfl := data_inj hD
  have HB5 := hd (HB4.out.trans (hb5.mono HB4.out.size))
  clear hb5 hD Hg5 HB4
  have Hg6 := hd (ggrep_any p t ⟨false, false, false, true⟩ w5 (Hn.out.below HB5.out Hn.out.lt) (Ht.out.below HB5.out Ht.out.lt) hp hts)
  go_wp2_with fail
  refine Hg6.out.mono ?_
  rintro e6 w6 ⟨hb6, E, rfl, hE⟩
  rw [HE.out] at hE
  rw [HE.out]
  obtain rfl := data_inj hE
  have HB6 := hd (HB5.out.trans (hb6.mono HB5.out.size))
  clear hb6 hE Hg6 HB5
  by_cases he : ev = 0
  · have h4 : 4000 < t.size := Hbad.out.resolve_right (fun h => h (hev.1 he))
    have h4I : (4000 : Int) < (t.size : Int) := by omega
    subst he
    clear hev
    go_wp2
    go_ret
    exact ⟨rfl, HB6.out⟩
  · have heI : (ev == 0) = false := by rw [beq_eq_false_iff_ne]; exact he
    clear hev
    go_wp2
    go_ret
    exact ⟨rfl, HB6.out⟩
theorem grepE_count {p t : List UInt8} (h4 : ¬ 4000 < t.length) (hp : (parseT p).1 = 0) (iv : Bool) : grepE p t ⟨false, iv, true, false⟩ = (Lib.decDigits (chosen p iv (linesG [] t)).length ++ [10], if 0 < (chosen p iv (linesG [] t)).length then 0 else 1) := by
  unfold grepE
  rw [if_neg h4, if_neg (by rw [hp]; simp), if_pos rfl, runG_ch, Nat.zero_add, Lib.itoa_nonneg]
theorem grepE_num {p t : List UInt8} (h4 : ¬ 4000 < t.length) (hp : (parseT p).1 = 0) : grepE p t ⟨false, false, false, true⟩ = ((zn p 0 (linesG [] t)).flatMap fun s => s ++ [10], if 0 < (chosen p false (linesG [] t)).length then 0 else 1) := by
  rw [grepE_good _ h4 hp rfl, out_num, List.nil_append]
theorem cnt_eq {A : ByteArray} {n : Nat} (h : A.data.toList = Lib.decDigits n ++ [10]) : A = numB n ++ ⟨#[10]⟩ := by
  apply ByteArray.ext
  apply Array.toList_inj.1
  rw [app_l, h]
  rfl
theorem st_pos (n : Nat) : (((if 0 < n then 0 else 1 : Nat) : Int) == 0) = decide ((0 : Int) < (n : Int)) := by
  by_cases h : 0 < n
  · rw [if_pos h]
    simp
    omega
  · rw [if_neg h]
    simp
    omega
theorem zn_no {p t : List UInt8} {z : List UInt8} (h : z ∈ zn p 0 (linesG [] t)) : 10 ∉ z ∧ z.length ≤ 21 + 1 + t.length ∨ 100000 < t.length := by
  by_cases hl : t.length ≤ 100000
  · refine .inl ?_
    obtain ⟨m, s, _, h2, h3, rfl⟩ := zn_mem p _ 0 z h
    have h4 := linesG_no t [] (by simp) s h3
    have h5 := linesG_len t []
    have h6 := (show (Lib.decDigits (m + 1)).length ≤ 21 by have := itoa_len (m + 1) (by omega); rw [Lib.itoa_nonneg] at this; exact this)
    refine ⟨fun hh => ?_, by simp; simp at h4; omega⟩
    rcases List.mem_append.1 hh with h | h
    · exact dec_no (by decide) h
    · rcases List.mem_cons.1 h with h | h
      · cases h
      · exact h4.1 h
  · exact .inr (by omega)
theorem add_str (x y : ByteArray) (h : x.size + y.size ≤ 1000000) : Op.stringOp .add x y = pure (.string (x ++ y)) := by
  unfold Op.stringOp
  simp only []
  rw [if_neg (by have : IntKind.i64.max = 9223372036854775807 := by decide
                 omega)]
set_option maxRecDepth 100000 in
set_option maxHeartbeats 6400000 in
theorem parted_good (w : World) (p t : ByteArray) (hn : NamesIn w) (ht : Tb w) (hp : p.size ≤ maxLen) (h4 : ¬ 4000 < t.size) (hok : (parseT p.data.toList).1 = 0) :
    Calls Tryd.prog 4 #[.string p, .string t] w fun e w' => e = .returned (.bool true) ∧ Below w.heap.size w w' := by
  have Hal := hd (alive_any w hn ht)
  have hts : t.size ≤ maxLen := by unfold maxLen; omega
  have h4I : ¬ (4000 : Int) < (t.size : Int) := by omega
  have h4l : ¬ 4000 < t.data.toList.length := by rw [len_data]; exact h4
  have HEA := hd (grepE_plain h4l hok false)
  have HEB := hd (grepE_plain h4l hok true)
  have HEC := hd (grepE_count h4l hok false)
  have HED := hd (grepE_count h4l hok true)
  have HEE := hd (grepE_num h4l hok)
  have hpX := st_pos (chosen p.data.toList false (linesG [] t.data.toList)).length
  have hpY := st_pos (chosen p.data.toList true (linesG [] t.data.toList)).length
  generalize hX : chosen p.data.toList false (linesG [] t.data.toList) = X at *
  generalize hY : chosen p.data.toList true (linesG [] t.data.toList) = Y at *
  generalize hZ : zn p.data.toList 0 (linesG [] t.data.toList) = Z at *
  have HX := hd hX
  have HY := hd hY
  have HZ := hd hZ
  generalize (if 0 < X.length then 0 else 1 : Nat) = sX at *
  generalize (if 0 < Y.length then 0 else 1 : Nat) = sY at *
  have HpX := hd hpX
  have HpY := hd hpY
  have Hn := hd hn
  have Ht := hd ht
  have Hok := hd hok
  clear hn ht hok hX hY hZ hpX hpY h4l
  go_enter Tryd.func4, Tryd.ntmps4
  go_wp2_with fail
  refine Hal.out.mono ?_
  rintro e0 w0 ⟨rfl, hb0⟩
  have HB0 := hd hb0
  have Hc := hd (compile_any p w0 (Hn.out.below hb0 Hn.out.lt) hp)
  clear hb0 Hal
  go_wp2_with fail
  refine Hc.out.mono ?_
  rintro e1 w1 ⟨hb1, hh⟩
  have HB1 := hd (HB0.out.trans (hb1.mono HB0.out.size))
  clear hb1 HB0 Hc
  obtain ⟨pv, ev, qv, rfl, hev⟩ : ∃ pv ev qv, e1 = .returned (.tuple #[pv, .int .i64 ev, qv]) ∧ (ev = 0 ↔ (parseT p.data.toList).1 = 0) := by
    rcases hh with ⟨he, g, hg, rfl, hpi⟩ | ⟨he, rfl⟩
    · exact ⟨_, 0, _, rfl, by simp [he]⟩
    · exact ⟨_, _, _, rfl, by simp⟩
  clear hh
  have Hg2 := hd (ggrep_any p t ⟨false, false, false, false⟩ w1 (Hn.out.below HB1.out Hn.out.lt) (Ht.out.below HB1.out Ht.out.lt) hp hts)
  go_wp2_with fail
  refine Hg2.out.mono ?_
  rintro e2 w2 ⟨hb2, A, rfl, hA⟩
  rw [HEA.out] at hA
  rw [HEA.out]
  have HA := hd hA
  have HB2 := hd (HB1.out.trans (hb2.mono HB1.out.size))
  clear hb2 hA Hg2 HB1
  have Hg3 := hd (ggrep_any p t ⟨false, true, false, false⟩ w2 (Hn.out.below HB2.out Hn.out.lt) (Ht.out.below HB2.out Ht.out.lt) hp hts)
  go_wp2_with fail
  refine Hg3.out.mono ?_
  rintro e3 w3 ⟨hb3, B, rfl, hB⟩
  rw [HEB.out] at hB
  rw [HEB.out]
  have HB := hd hB
  have HB3 := hd (HB2.out.trans (hb3.mono HB2.out.size))
  clear hb3 hB Hg3 HB2
  have Hg4 := hd (ggrep_any p t ⟨false, false, true, false⟩ w3 (Hn.out.below HB3.out Hn.out.lt) (Ht.out.below HB3.out Ht.out.lt) hp hts)
  go_wp2_with fail
  refine Hg4.out.mono ?_
  rintro e4 w4 ⟨hb4, C, rfl, hC⟩
  rw [HEC.out] at hC
  rw [HEC.out]
  have HC := hd hC
  have HB4 := hd (HB3.out.trans (hb4.mono HB3.out.size))
  clear hb4 hC Hg4 HB3
  have Hg5 := hd (ggrep_any p t ⟨false, true, true, false⟩ w4 (Hn.out.below HB4.out Hn.out.lt) (Ht.out.below HB4.out Ht.out.lt) hp hts)
  go_wp2_with fail
  refine Hg5.out.mono ?_
  rintro e5 w5 ⟨hb5, D, rfl, hD⟩
  rw [HED.out] at hD
  rw [HED.out]
  have HD := hd hD
  have HB5 := hd (HB4.out.trans (hb5.mono HB4.out.size))
  clear hb5 hD Hg5 HB4
  have Hg6 := hd (ggrep_any p t ⟨false, false, false, true⟩ w5 (Hn.out.below HB5.out Hn.out.lt) (Ht.out.below HB5.out Ht.out.lt) hp hts)
  go_wp2_with fail
  refine Hg6.out.mono ?_
  rintro e6 w6 ⟨hb6, E, rfl, hE⟩
  rw [HEE.out] at hE
  rw [HEE.out]
  have HE := hd hE
  have HB6 := hd (HB5.out.trans (hb6.mono HB5.out.size))
  clear hb6 hE Hg6 HB5
  obtain rfl : ev = 0 := hev.2 Hok.out
  clear hev HEA HEB HEC HED HEE
  have Hln : Hid ((linesG [] t.data.toList).length ≤ 4001) := hd (by have h1 := linesG_len t.data.toList []; have h2 := len_data t; omega)
  have HXn : Hid (∀ s ∈ X, 10 ∉ s ∧ s.length ≤ 5000) := hd (fun s hs => by rw [← HX.out] at hs; have := chosen_no hs; have h2 := len_data t; exact ⟨this.1, by omega⟩)
  have HYn : Hid (∀ s ∈ Y, 10 ∉ s ∧ s.length ≤ 5000) := hd (fun s hs => by rw [← HY.out] at hs; have := chosen_no hs; have h2 := len_data t; exact ⟨this.1, by omega⟩)
  have HZn : Hid (∀ s ∈ Z, 10 ∉ s ∧ s.length ≤ 5000) := hd (fun s hs => by rw [← HZ.out] at hs; have h2 := len_data t; rcases zn_no hs with h | h; exact ⟨h.1, by omega⟩; omega)
  have hXl : X.length ≤ 4001 := by have h1 := chosen_len p.data.toList false (linesG [] t.data.toList); rw [HX.out] at h1; have := Hln.out; omega
  have hYl : Y.length ≤ 4001 := by have h1 := chosen_len p.data.toList true (linesG [] t.data.toList); rw [HY.out] at h1; have := Hln.out; omega
  have HZl : Hid (Z.length = X.length) := hd (by rw [← HZ.out, ← HX.out, zn_len])
  have fl : ∀ (L : List (List UInt8)), L.length ≤ 4001 → (∀ s ∈ L, 10 ∉ s ∧ s.length ≤ 5000) → (L.flatMap fun s => s ++ [10]).length ≤ 1000000000000 := fun L h1 h2 => by
    have h3 := flat_le (F := fun s => s ++ [10]) (m := 5001) L (fun s hs => by have := (h2 s hs).2; simp; omega)
    have h4 : L.length * 5001 ≤ 4001 * 5001 := Nat.mul_le_mul_right _ h1
    omega
  have HsA : Hid (A.size ≤ 1000000000000) := hd (by rw [← len_data, HA.out]; exact fl X hXl HXn.out)
  have HsB : Hid (B.size ≤ 1000000000000) := hd (by rw [← len_data, HB.out]; exact fl Y hYl HYn.out)
  have HsE : Hid (E.size ≤ 1000000000000) := hd (by rw [← len_data, HE.out]; exact fl Z (by rw [HZl.out]; exact hXl) HZn.out)
  obtain rfl := cnt_eq HC.out
  obtain rfl := cnt_eq HD.out
  clear fl HC HD
  have Hk7 := hd (klines_any w6 A HsA.out)
  have HL7 : Hid (linesK [] A.data.toList = X.map fun s => s ++ [10]) := hd (by rw [HA.out]; exact linesK_flat X (fun s hs => (HXn.out s hs).1))
  go_wp2_with fail
  refine Hk7.out.mono ?_
  rintro e7 w7 ⟨v7, rfl, hb7, ho7⟩
  rw [HL7.out, List.length_map] at ho7
  obtain ⟨a7, c7, rfl⟩ := owns_shape ho7
  have HO7 := hd ho7
  have HB7 := hd (HB6.out.trans (hb7.mono HB6.out.size))
  have Hb7 := hd hb7
  clear ho7 hb7 Hk7 HL7 HsA HA HB6
  have Hk8 := hd (klines_any w7 B HsB.out)
  have HL8 : Hid (linesK [] B.data.toList = Y.map fun s => s ++ [10]) := hd (by rw [HB.out]; exact linesK_flat Y (fun s hs => (HYn.out s hs).1))
  go_wp2_with fail
  refine Hk8.out.mono ?_
  rintro e8 w8 ⟨v8, rfl, hb8, ho8⟩
  rw [HL8.out, List.length_map] at ho8
  obtain ⟨a8, c8, rfl⟩ := owns_shape ho8
  have HO8 := hd ho8
  have HB8 := hd (HB7.out.trans (hb8.mono HB7.out.size))
  have Hb8 := hd hb8
  clear ho8 hb8 Hk8 HL8 HsB HB HB7
  have Hk9 := hd (klines_any w8 E HsE.out)
  have HL9 : Hid (linesK [] E.data.toList = Z.map fun s => s ++ [10]) := hd (by rw [HE.out]; exact linesK_flat Z (fun s hs => (HZn.out s hs).1))
  go_wp2_with fail
  refine Hk9.out.mono ?_
  rintro e9 w9 ⟨v9, rfl, hb9, ho9⟩
  rw [HL9.out, List.length_map] at ho9
  obtain ⟨a9, c9, rfl⟩ := owns_shape ho9
  have HO9 := hd ho9
  have HB9 := hd (HB8.out.trans (hb9.mono HB8.out.size))
  have Hb9 := hd hb9
  clear ho9 hb9 Hk9 HL9 HsE HE HB8
  have hXI : (X.length : Int) ≤ 4001 := by omega
  have hYI : (Y.length : Int) ≤ 4001 := by omega
  have hZI : (Z.length : Int) = (X.length : Int) := by rw [HZl.out]
  have hqX := numB_len X.length (by omega)
  have hqY := numB_len Y.length (by omega)
  have hpX := HpX.out
  have hpY := HpY.out
  have Hm10 := hd (number_any X.length (by omega) w9)
  go_wp2_with fail
  refine Hm10.out.mono ?_
  rintro e10 w10 ⟨rfl, hb10⟩
  have HB10 := hd (HB9.out.trans (hb10.mono HB9.out.size))
  have Hb10 := hd hb10
  have Hm11 := hd (number_any Y.length (by omega) w10)
  clear hb10 Hm10 HB9
  go_wp2_with fail
  refine Hm11.out.mono ?_
  rintro e11 w11 ⟨rfl, hb11⟩
  have HB11 := hd (HB10.out.trans (hb11.mono HB10.out.size))
  have Hb11 := hd hb11
  have Hk12 := hd (klines_any w11 t (by omega))
  clear hb11 Hm11 HB10
  go_wp2_with fail
  refine Hk12.out.mono ?_
  rintro e12 w12 ⟨v12, rfl, hb12, ho12⟩
  have hrel0 := lines_rel t.data.toList [] (by simp)
  rw [hrel0.1] at ho12
  have Hrel := hd hrel0.2
  have HlG : Hid (∀ s ∈ linesG [] t.data.toList, s.length ≤ 4000) := hd (fun s hs => by have := (linesG_no t.data.toList [] (by simp) s hs).2; have h2 := len_data t; simp at this; omega)
  have Hlk := hd hrel0.1
  clear hrel0
  generalize linesK [] t.data.toList = lk at *
  generalize linesG [] t.data.toList = ls at *
  obtain ⟨a12, c12, rfl⟩ := owns_shape ho12
  have HO12 := hd ho12
  have HB12 := hd (HB11.out.trans (hb12.mono HB11.out.size))
  have Hb12 := hd hb12
  have hN := Hln.out
  have hNI : (ls.length : Int) ≤ 4001 := by omega
  clear ho12 hb12 Hk12 HB11
  go_wp2_with fail
  go_loopg [21, 22, 147] (ls.length + 1) (fun f iv jv kv wr => ∃ (i j k : Nat), iv = .int .i64 i ∧ jv = .int .i64 j ∧ kv = .int .i64 k ∧ k ≤ ls.length ∧ ls.length < k + f ∧ i ≤ X.length ∧ j ≤ Y.length ∧ Hid (i = (chosen p.data.toList false (ls.take k)).length) ∧ Hid (j = (chosen p.data.toList true (ls.take k)).length) ∧ Hid (Below w12.heap.size w12 wr))
  case atStart => exact ⟨0, 0, 0, rfl, rfl, rfl, Nat.zero_le _, by omega, Nat.zero_le _, Nat.zero_le _, hd rfl, hd rfl, hd (Below.refl _ _)⟩
  case round =>
    obtain ⟨i, j, k, rfl, rfl, rfl, hkl, hkf, hiX, hjY, Hi, Hj, HBk⟩ := hrel
    have hi0 : (0 : Int) ≤ (i : Int) := by omega
    have hj0 : (0 : Int) ≤ (j : Int) := by omega
    have hk0 : (0 : Int) ≤ (k : Int) := by omega
    have hiI : (i : Int) ≤ (X.length : Int) := by omega
    have hjI : (j : Int) ≤ (Y.length : Int) := by omega
    by_cases hlt : k < ls.length
    · have hlt1 : (k : Int) < (ls.length : Int) := by omega
      have hlk : k < lk.length := by rw [Hlk.out]; exact hlt
      have hLK := Hrel.out k lk[k] ls[k] (List.getElem?_eq_getElem hlk) (List.getElem?_eq_getElem hlt)
      have hsl := HlG.out ls[k] (List.getElem_mem hlt)
      obtain ⟨b, cp, he, hbb, hbl⟩ := HO12.out.form (by omega)
      cases he
      obtain ⟨S, hS⟩ : ∃ S : ByteArray, S = ⟨lk[k].toArray⟩ := ⟨_, rfl⟩
      have d0 : wr.cell? ⟨b, k, none⟩ = some (.string S) := (HBk.out.cell (by exact hbl)).trans (owns_cell HO12.out k _ (by unfold sts; rw [List.getElem?_map, List.getElem?_eq_getElem hlk, hS]; rfl))
      have hSd : S.data.toList = lk[k] := by rw [hS]
      have hSs : S.size ≤ 5000 := by
        rw [← len_data, hSd]
        rcases hLK.2 with h | h
        · rw [h]; simp; omega
        · rw [h.1]; omega
      rw [← hSd] at hLK
      have Hend := hd (ended_any wr S ls[k] hSs hLK.1 hLK.2)
      have lb := World.block_lt_of_cell? _ _ d0
      clear hLK hSs hSd hS hlk
      go_wp2_with fail
      refine Hend.out.mono ?_
      rintro e13 w13 ⟨L, rfl, hL, hw⟩
      have hw' := hw.symm
      subst hw'
      have HL := hd hL
      have HBx := hd (Hb9.out.trans (Hb10.out.mono Hb9.out.size))
      clear hw hL Hend d0 lb HBx
      have keep : ∀ (g o : Nat) (v : Value) (wz : World), Below wz.heap.size wz w12 → wz.cell? ⟨g, o, none⟩ = some v → wr.cell? ⟨g, o, none⟩ = some v := fun g o v wz h1 h2 => (HBk.out.cell (Nat.lt_of_lt_of_le (World.block_lt_of_cell? _ _ h2) h1.size)).trans ((h1.cell (World.block_lt_of_cell? _ _ h2)).trans h2)
      have K9 : Below w9.heap.size w9 w12 := (Hb10.out.trans (Hb11.out.mono Hb10.out.size)).trans (Hb12.out.mono (Nat.le_trans Hb10.out.size Hb11.out.size))
      have K8 : Below w8.heap.size w8 w12 := Hb9.out.trans (K9.mono Hb9.out.size)
      have K7 : Below w7.heap.size w7 w12 := Hb8.out.trans (K8.mono Hb8.out.size)
      have Hnu : Hid (∀ W : World, Calls Tryd.prog 14 #[.int .i64 ((k : Int) + 1)] W fun e w' => e = .returned (.string (numB (k + 1))) ∧ Below W.heap.size W w') := hd (number_any (k + 1) (by omega))
      have hwk : IntKind.i64.wrap ((k : Int) + 1) = (k : Int) + 1 := wrapI _ (by omega) (by omega)
      have hqk := numB_len (k + 1) (by omega)
      have HLs : Hid (L.size ≤ 4001) := hd (by rw [← len_data, HL.out]; simp; omega)
      have hLs := HLs.out
      have HKp := hd keep
      have HK := hd (And.intro K7 (And.intro K8 K9))
      clear keep K7 K8 K9
      by_cases hf : (findE p.data.toList ls[k] 0).isSome = true
      · have hxi : X[i]? = some ls[k] := by
          rw [← HX.out, Hi.out]
          exact filter_at (fun s => (findE p.data.toList s 0).isSome != false) hlt (by simp [hf])
        have hzi : Z[i]? = some (Lib.decDigits (k + 1) ++ 58 :: ls[k]) := by
          rw [← HZ.out, Hi.out]
          exact zn_at p.data.toList hlt hf
        have hil : i < X.length := (List.getElem?_eq_some_iff.1 hxi).1
        have hizl : i < Z.length := (List.getElem?_eq_some_iff.1 hzi).1
        obtain ⟨b7, cp7, he7, _, hl7⟩ := HO7.out.form (by omega)
        cases he7
        obtain ⟨b9, cp9, he9, _, hl9⟩ := HO9.out.form (by omega)
        cases he9
        have dx : wr.cell? ⟨b7, i, none⟩ = some (.string L) := HKp.out _ _ _ w7 HK.out.1 (owns_cell HO7.out i _ (by
          rw [sts_get X i hil, (List.getElem?_eq_some_iff.1 hxi).2, ← data_inj HL.out]))
        have dz : wr.cell? ⟨b9, i, none⟩ = some (.string (numB (k + 1) ++ ⟨#[58]⟩ ++ L)) := HKp.out _ _ _ w9 HK.out.2.2 (owns_cell HO9.out i _ (by
          rw [sts_get Z i hizl, (List.getElem?_eq_some_iff.1 hzi).2]
          congr 2
          apply ByteArray.ext
          apply Array.toList_inj.1
          rw [app_l, app_l, HL.out]
          simp [numB]))
        have lb7 := World.block_lt_of_cell? _ _ dx
        have lb9 := World.block_lt_of_cell? _ _ dz
        have hilI : (i : Int) < (X.length : Int) := by omega
        have hizI : (i : Int) < (Z.length : Int) := by omega
        have Hi2 : Hid (i + 1 = (chosen p.data.toList false (ls.take (k + 1))).length) := hd (by
          unfold chosen
          rw [filter_snoc (fun s => (findE p.data.toList s 0).isSome != false) hlt, if_pos (by simp [hf]), Hi.out]
          rfl)
        have Hj2 : Hid (j = (chosen p.data.toList true (ls.take (k + 1))).length) := hd (by
          unfold chosen
          rw [filter_snoc (fun s => (findE p.data.toList s 0).isSome != true) hlt, if_neg (by simp [hf]), Hj.out]
          rfl)
        generalize numB (k + 1) = M at *
        have hadd1 : Op.stringOp .add M ⟨#[58]⟩ = pure (.string (M ++ ⟨#[58]⟩)) := add_str _ _ (by show M.size + 1 ≤ _; omega)
        have hadd2 : Op.stringOp .add (M ++ ⟨#[58]⟩) L = pure (.string (M ++ ⟨#[58]⟩ ++ L)) := add_str _ _ (by rw [ByteArray.size_append]; show M.size + 1 + L.size ≤ _; omega)
        clear hxi hzi hf Hi Hj
        go_wp2_with fail
        go_region_held3 (fun w' => w'.cell? ⟨b7, i, none⟩ = some (.string L) ∧ w'.cell? ⟨b9, i, none⟩ = some (.string (M ++ ⟨#[58]⟩ ++ L))) (go_keep)
          ((first
            | (go_at_call 14; refine (Hnu.out _).mono ?_; rintro e14 w14 ⟨rfl, hb14⟩; have z1 : w14.cell? ⟨b7, i, none⟩ = some (.string L) := (hb14.cell (by exact lb7)).trans (by simpa using dx); have z2 : w14.cell? ⟨b9, i, none⟩ = some (.string (M ++ ⟨#[58]⟩ ++ L)) := (hb14.cell (by exact lb9)).trans (by simpa using dz))))
        have HB14 : Hid (Below w12.heap.size w12 w14) := hd (HBk.out.drew.trans (hb14.mono HBk.out.size))
        clear hb14 z1 z2 dx dz HBk
        go_wp2
        go_roundg (gk - 1)
        case measure => omega
        case rel => exact ⟨i + 1, j, k + 1, by go_num, rfl, by go_num, by omega, by omega, by omega, hjY, Hi2, Hj2, HB14⟩
      · have hyj : Y[j]? = some ls[k] := by
          rw [← HY.out, Hj.out]
          exact filter_at (fun s => (findE p.data.toList s 0).isSome != true) hlt (by simp [hf])
        have hjl : j < Y.length := (List.getElem?_eq_some_iff.1 hyj).1
        obtain ⟨b8, cp8, he8, _, hl8⟩ := HO8.out.form (by omega)
        cases he8
        have dy : wr.cell? ⟨b8, j, none⟩ = some (.string L) := HKp.out _ _ _ w8 HK.out.2.1 (owns_cell HO8.out j _ (by
          rw [sts_get Y j hjl, (List.getElem?_eq_some_iff.1 hyj).2, ← data_inj HL.out]))
        have lb8 := World.block_lt_of_cell? _ _ dy
        have hjlI : (j : Int) < (Y.length : Int) := by omega
        have Hi2 : Hid (i = (chosen p.data.toList false (ls.take (k + 1))).length) := hd (by
          unfold chosen
          rw [filter_snoc (fun s => (findE p.data.toList s 0).isSome != false) hlt, if_neg (by simp [hf]), Hi.out]
          rfl)
        have Hj2 : Hid (j + 1 = (chosen p.data.toList true (ls.take (k + 1))).length) := hd (by
          unfold chosen
          rw [filter_snoc (fun s => (findE p.data.toList s 0).isSome != true) hlt, if_pos (by simp [hf]), Hj.out]
          rfl)
        have hLL : (L.toList == L.toList) = true := by simp
        by_cases hil : i < X.length
        · have hizl : i < Z.length := by rw [HZl.out]; exact hil
          have Hzn := hd (fun s => zn_not p.data.toList hlt hf Z[i] (by rw [HZ.out, ← Hi.out]; exact List.getElem?_eq_getElem hizl) s)
          obtain ⟨b7, cp7, he7, _, hl7⟩ := HO7.out.form (by omega)
          cases he7
          obtain ⟨b9, cp9, he9, _, hl9⟩ := HO9.out.form (by omega)
          cases he9
          obtain ⟨Bx, hBx⟩ : ∃ Bx : ByteArray, Bx = ⟨(X[i] ++ [10]).toArray⟩ := ⟨_, rfl⟩
          obtain ⟨Bz, hBz⟩ : ∃ Bz : ByteArray, Bz = ⟨(Z[i] ++ [10]).toArray⟩ := ⟨_, rfl⟩
          have dx : wr.cell? ⟨b7, i, none⟩ = some (.string Bx) := HKp.out _ _ _ w7 HK.out.1 (owns_cell HO7.out i _ (by rw [sts_get X i hil, hBx]))
          have dz : wr.cell? ⟨b9, i, none⟩ = some (.string Bz) := HKp.out _ _ _ w9 HK.out.2.2 (owns_cell HO9.out i _ (by rw [sts_get Z i hizl, hBz]))
          have hze : (Bz.toList == (numB (k + 1) ++ ⟨#[58]⟩ ++ L).toList) = false := by
            rw [beq_eq_false_iff_ne, ByteArray.toList_eq, ByteArray.toList_eq, app_l, app_l, HL.out, hBz]
            intro e
            apply Hzn.out (ls[k])
            have e2 : Z[i] ++ [10] = (Lib.decDigits (k + 1) ++ 58 :: ls[k]) ++ [10] := by
              simp only [numB] at e
              simpa using e
            exact List.append_cancel_right e2
          have lb7 := World.block_lt_of_cell? _ _ dx
          have lb9 := World.block_lt_of_cell? _ _ dz
          have hilI : (i : Int) < (X.length : Int) := by omega
          have hizI : (i : Int) < (Z.length : Int) := by omega
          generalize numB (k + 1) = M at *
          have hadd1 : Op.stringOp .add M ⟨#[58]⟩ = pure (.string (M ++ ⟨#[58]⟩)) := add_str _ _ (by show M.size + 1 ≤ _; omega)
          have hadd2 : Op.stringOp .add (M ++ ⟨#[58]⟩) L = pure (.string (M ++ ⟨#[58]⟩ ++ L)) := add_str _ _ (by rw [ByteArray.size_append]; show M.size + 1 + L.size ≤ _; omega)
          clear hyj hf Hi Hj hBx hBz Hzn
          by_cases hxe : (Bx.toList == L.toList) = true
          · go_wp2_with fail
            go_region_held3 (fun w' => w'.cell? ⟨b7, i, none⟩ = some (.string Bx) ∧ w'.cell? ⟨b9, i, none⟩ = some (.string Bz)) (go_keep)
              ((first
                | (go_at_call 14; refine (Hnu.out _).mono ?_; rintro e14 w14 ⟨rfl, hb14⟩; have z1 : w14.cell? ⟨b7, i, none⟩ = some (.string Bx) := (hb14.cell (by exact lb7)).trans (by simpa using dx); have z2 : w14.cell? ⟨b9, i, none⟩ = some (.string Bz) := (hb14.cell (by exact lb9)).trans (by simpa using dz))))
            have HB14 : Hid (Below w12.heap.size w12 w14) := hd (HBk.out.drew.trans (hb14.mono HBk.out.size))
            have dy14 : w14.cell? ⟨b8, j, none⟩ = some (.string L) := (hb14.cell (by exact lb8)).trans (by simpa using dy)
            have lb14 := World.block_lt_of_cell? _ _ dy14
            clear hb14 z1 z2 dx dz HBk dy
            go_wp2
            go_roundg (gk - 1)
            case measure => omega
            case rel => exact ⟨i, j + 1, k + 1, rfl, by go_num, by go_num, by omega, by omega, hiX, by omega, Hi2, Hj2, HB14⟩
          · have hxe2 : (Bx.toList == L.toList) = false := by simpa using hxe
            clear hxe
            go_wp2_with fail
            go_quiet (fail)
            have HB14 : Hid (∀ n, Below w12.heap.size w12 (wr.drewN n)) := hd (fun _ => ⟨HBk.out.os, HBk.out.tape, HBk.out.output, HBk.out.size, HBk.out.block⟩)
            clear dx dz HBk
            go_wp2
            go_roundg (gk - 1)
            case measure => omega
            case rel => exact ⟨i, j + 1, k + 1, rfl, by go_num, by go_num, by omega, by omega, hiX, by omega, Hi2, Hj2, hd (HB14.out _)⟩
        · have hilI : ¬ (i : Int) < (X.length : Int) := by omega
          have hilD : decide ((i : Int) < (X.length : Int)) = false := by simp; omega
          clear hyj hf Hi Hj
          go_wp2_with fail
          go_quiet (fail)
          have HB14 : Hid (∀ n, Below w12.heap.size w12 (wr.drewN n)) := hd (fun _ => ⟨HBk.out.os, HBk.out.tape, HBk.out.output, HBk.out.size, HBk.out.block⟩)
          clear HBk
          go_wp2
          go_roundg (gk - 1)
          case measure => omega
          case rel => exact ⟨i, j + 1, k + 1, rfl, by go_num, by go_num, by omega, by omega, hiX, by omega, Hi2, Hj2, hd (HB14.out _)⟩
    · obtain rfl : k = ls.length := by omega
      obtain rfl : i = X.length := by rw [Hi.out, List.take_length, HX.out]
      obtain rfl : j = Y.length := by rw [Hj.out, List.take_length, HY.out]
      have HBf := hd (HB12.out.trans (HBk.out.mono HB12.out.size))
      clear HBk Hi Hj
      go_wp2
      go_ret
      exact ⟨rfl, HBf.out⟩
end Go.Proofs.YtldiemjlpnachabDoor
