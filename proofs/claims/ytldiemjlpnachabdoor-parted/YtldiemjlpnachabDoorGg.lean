import Derived.Test.YtldiemjlpnachabDoorGl
/- A search of a text: its lines; Grep. -/
namespace Go.Proofs.YtldiemjlpnachabDoor
open Go.RowKit

/-- the lines of a text: what is read of one, and the rest -/
def linesG : List UInt8 → List UInt8 → List (List UInt8)
  | cur, [] => if cur = [] then [] else [cur]
  | cur, c :: r => if c = 10 then cur :: linesG [] r else linesG (cur ++ [c]) r
def runG (p : List UInt8) (o : Opt) (σ : Sg) (ls : List (List UInt8)) : Sg := ls.foldl (stepG p o) σ
theorem cut_snoc {t : List UInt8} {a i : Nat} (ha : a ≤ i) (hi : i < t.length) : (t.drop a).take (i - a) ++ [t[i]] = (t.drop a).take (i + 1 - a) := by
  rw [show i + 1 - a = (i - a) + 1 by omega, List.take_succ_eq_append_getElem (by rw [List.length_drop]; omega)]
  congr 2
  rw [List.getElem_drop]
  congr 1
  omega
theorem lineOut_len (p : List UInt8) (o : Opt) (num : Nat) (hn : num ≤ 1000000) (s : List UInt8) (hs : s.length ≤ 4000) : (lineOut p o num s).length ≤ 17000000 := by
  unfold lineOut
  split
  · simp
  · split
    · split
      · simp
      · have h1 := outM_len o num hn s (allE p s (s.length + 1) 0)
        have h2 := Nat.mul_le_mul (allE_len p s (s.length + 1) 0) (show s.length + 23 ≤ 4023 by omega)
        have h3 : (s.length + 1) * 4023 ≤ 4001 * 4023 := Nat.mul_le_mul_right _ (by omega)
        omega
    · have := fmtL_len o num hn s
      omega
/-- how great it can be -/
def Sml (σ : Sg) (i : Nat) : Prop := σ.num ≤ i ∧ σ.ch ≤ σ.num ∧ σ.out.length ≤ σ.num * 17000000
theorem Sml.step {p : List UInt8} {o : Opt} {σ : Sg} {i : Nat} (h : Sml σ i) (hi : i ≤ 4000) {s : List UInt8} (hs : s.length ≤ 4000) : Sml (stepG p o σ s) (i + 1) := by
  obtain ⟨h1, h2, h3⟩ := h
  have h4 := lineOut_len p o (σ.num + 1) (by omega) s hs
  unfold stepG
  split
  · refine ⟨Nat.succ_le_succ h1, Nat.succ_le_succ h2, ?_⟩
    show (σ.out ++ lineOut p o (σ.num + 1) s).length ≤ (σ.num + 1) * 17000000
    rw [List.length_append, Nat.add_mul]
    omega
  · exact ⟨Nat.succ_le_succ h1, Nat.le_succ_of_le h2, Nat.le_trans h3 (Nat.mul_le_mul_right _ (Nat.le_succ _))⟩
set_option maxRecDepth 100000 in
set_option maxHeartbeats 3200000 in
theorem glines_any {w0 w : World} {S g : Nat} {o : Opt} {p : List UInt8} (m : Gs w S g o 0 0 []) (ht : Tb w) (hT : 0 < S) (hP : PgN w0 w g p S) (hok : (parseT p).1 = 0) (s : ByteArray) (hs : s.size ≤ 4000) :
    Calls Tryd.prog 22 #[.pointer (some ⟨S, 0, none⟩), .string s] w fun e w' => e = .returned (.tuple #[]) ∧ Gs w' S g o (runG p o ⟨0, 0, []⟩ (linesG [] s.data.toList)).num (runG p o ⟨0, 0, []⟩ (linesG [] s.data.toList)).ch (runG p o ⟨0, 0, []⟩ (linesG [] s.data.toList)).out ∧ Gf w w' S := by
  have Hm := hd m
  have Ht := hd ht
  have HP := hd hP
  have Hok := hd hok
  have Hl := hd (len_data s)
  have hs1 : (s.size : Int) ≤ 4000 := by omega
  clear m ht hP hok
  go_enter Tryd.func22, Tryd.ntmps22
  go_wp2_with fail
  go_loopg [4, 5] (s.size + 1) (fun f av iv wr => ∃ (a i : Nat) (σ : Sg), av = .int .i64 a ∧ iv = .int .i64 i ∧ a ≤ i ∧ i ≤ s.size ∧ s.size < i + f ∧ Hid (Sml σ i) ∧ Hid (Gs wr S g o σ.num σ.ch σ.out) ∧ Hid (Gf w wr S) ∧ Hid (runG p o σ (linesG ((s.data.toList.drop a).take (i - a)) (s.data.toList.drop i)) = runG p o ⟨0, 0, []⟩ (linesG [] s.data.toList)))
  case atStart => exact ⟨0, 0, ⟨0, 0, []⟩, rfl, rfl, Nat.le_refl _, Nat.zero_le _, by omega, hd ⟨Nat.le_refl _, Nat.le_refl _, Nat.le_refl _⟩, Hm, hd (Gf.refl _ _), hd rfl⟩
  case round =>
    obtain ⟨a, i, σ, rfl, rfl, hai, his, hif, HZ, Hmi, HGi, HR⟩ := hrel
    have ha0 : (0 : Int) ≤ (a : Int) := by omega
    have hi0 : (0 : Int) ≤ (i : Int) := by omega
    have haI : (a : Int) ≤ (i : Int) := by omega
    by_cases hlt : i < s.size
    · have hlt1 : (i : Int) < (s.size : Int) := by omega
      have hil : i < s.data.toList.length := by rw [Hl.out]; exact hlt
      have Hch : Hid ((s[i]'hlt).toNat = (s.data.toList[i]).toNat) := hd (by
        rw [ch_get s i hlt]
        unfold ch
        rw [List.getElem?_eq_getElem hil]
        rfl)
      have Hdr : Hid (s.data.toList.drop i = s.data.toList[i] :: s.data.toList.drop (i + 1)) := hd (List.drop_eq_getElem_cons hil)
      by_cases hc : s.data.toList[i] = 10
      · have hcb : (((s[i]'hlt).toNat : Int) == 10) = true := by rw [Hch.out, hc]; rfl
        have HX : Hid ((s.extract a i).data.toList = (s.data.toList.drop a).take (i - a)) := hd (by
          have := extract_list s a i
          rw [ByteArray.toList_eq] at this
          exact this)
        have hxs : (s.extract a i).size ≤ 4000 := by
          rw [← len_data, HX.out, List.length_take, List.length_drop, Hl.out]
          omega
        have HR1 : Hid (runG p o (stepG p o σ (s.extract a i).data.toList) (linesG ((s.data.toList.drop (i + 1)).take (i + 1 - (i + 1))) (s.data.toList.drop (i + 1))) = runG p o ⟨0, 0, []⟩ (linesG [] s.data.toList)) := hd (by
          have h := HR.out
          rw [Hdr.out, linesG, if_pos hc, ← HX.out] at h
          rw [Nat.sub_self, List.take_zero]
          exact h)
        have HZ1 := hd (HZ.out.step (p := p) (o := o) (by omega) (s := (s.extract a i).data.toList) (by rw [len_data]; exact hxs))
        have hz := HZ.out
        have HL : Hid (Calls Tryd.prog 29 #[.pointer (some ⟨S, 0, none⟩), .string (s.extract a i)] wr fun e w' => e = .returned (.tuple #[]) ∧ Gs w' S g o (stepG p o σ (s.extract a i).data.toList).num (stepG p o σ (s.extract a i).data.toList).ch (stepG p o σ (s.extract a i).data.toList).out ∧ Gf wr w' S) := hd (gline_any Hmi.out (Ht.out.below HGi.out.bel hT) hT (HP.out.below HGi.out.bel) Hok.out (s.extract a i) (by omega) (by obtain ⟨z1, z2, z3⟩ := hz; omega) (by obtain ⟨z1, z2, z3⟩ := hz; omega) (by obtain ⟨z1, z2, z3⟩ := hz; omega))
        clear hc Hch Hdr hz
        go_wp2_with fail
        refine HL.out.mono ?_
        rintro e1 w1 ⟨rfl, hm1, hg1⟩
        have Hm1 := hd hm1
        have HG1 := hd (HGi.out.trans hg1)
        clear hm1 hg1 HL
        go_wp2
        go_roundg (gk - 1)
        case measure => omega
        case rel => exact ⟨i + 1, i + 1, _, by go_num, by go_num, Nat.le_refl _, by omega, by omega, HZ1, Hm1, HG1, HR1⟩
      · have hcb : (((s[i]'hlt).toNat : Int) == 10) = false := by
          rw [beq_eq_false_iff_ne, Hch.out]
          intro h
          apply hc
          apply UInt8.toNat_inj.1
          show _ = 10
          omega
        have HR1 : Hid (runG p o σ (linesG ((s.data.toList.drop a).take (i + 1 - a)) (s.data.toList.drop (i + 1))) = runG p o ⟨0, 0, []⟩ (linesG [] s.data.toList)) := hd (by
          have h := HR.out
          rw [Hdr.out, linesG, if_neg hc, cut_snoc hai hil] at h
          exact h)
        have HZ1 : Hid (Sml σ (i + 1)) := hd (by obtain ⟨z1, z2, z3⟩ := HZ.out; exact ⟨by omega, z2, z3⟩)
        clear hc Hch Hdr
        go_wp2
        go_roundg (gk - 1)
        case measure => omega
        case rel => exact ⟨a, i + 1, σ, rfl, by go_num, by omega, by omega, by omega, HZ1, Hmi, HGi, HR1⟩
    · obtain rfl : i = s.size := by omega
      have HD : Hid (s.data.toList.drop s.size = []) := hd (List.drop_eq_nil_of_le (by rw [Hl.out]; exact Nat.le_refl _))
      by_cases hal : a < s.size
      · have hal1 : (a : Int) < (s.size : Int) := by omega
        have HX : Hid ((s.extract a s.size).data.toList = (s.data.toList.drop a).take (s.size - a)) := hd (by
          have := extract_list s a s.size
          rw [ByteArray.toList_eq] at this
          exact this)
        have hxs : (s.extract a s.size).size ≤ 4000 := by
          rw [← len_data, HX.out, List.length_take, List.length_drop, Hl.out]
          omega
        have HR1 : Hid (stepG p o σ (s.extract a s.size).data.toList = runG p o ⟨0, 0, []⟩ (linesG [] s.data.toList)) := hd (by
          have h := HR.out
          rw [HD.out, linesG, if_neg (by
            intro e
            have := congrArg List.length e
            rw [List.length_take, List.length_drop, Hl.out] at this
            simp at this
            omega), ← HX.out] at h
          exact h)
        have hz := HZ.out
        have HL : Hid (Calls Tryd.prog 29 #[.pointer (some ⟨S, 0, none⟩), .string (s.extract a s.size)] wr fun e w' => e = .returned (.tuple #[]) ∧ Gs w' S g o (stepG p o σ (s.extract a s.size).data.toList).num (stepG p o σ (s.extract a s.size).data.toList).ch (stepG p o σ (s.extract a s.size).data.toList).out ∧ Gf wr w' S) := hd (gline_any Hmi.out (Ht.out.below HGi.out.bel hT) hT (HP.out.below HGi.out.bel) Hok.out (s.extract a s.size) (by omega) (by obtain ⟨z1, z2, z3⟩ := hz; omega) (by obtain ⟨z1, z2, z3⟩ := hz; omega) (by obtain ⟨z1, z2, z3⟩ := hz; omega))
        clear hz
        go_wp2_with fail
        refine HL.out.mono ?_
        rintro e1 w1 ⟨rfl, hm1, hg1⟩
        have HF : Hid (Gs w1 S g o (runG p o ⟨0, 0, []⟩ (linesG [] s.data.toList)).num (runG p o ⟨0, 0, []⟩ (linesG [] s.data.toList)).ch (runG p o ⟨0, 0, []⟩ (linesG [] s.data.toList)).out ∧ Gf w w1 S) := hd (by rw [← HR1.out]; exact ⟨hm1, HGi.out.trans hg1⟩)
        clear hm1 hg1 HL
        go_wp2
        go_end0
        exact ⟨rfl, HF.out⟩
      · have hal1 : ¬ (a : Int) < (s.size : Int) := by omega
        have HF : Hid (Gs wr S g o (runG p o ⟨0, 0, []⟩ (linesG [] s.data.toList)).num (runG p o ⟨0, 0, []⟩ (linesG [] s.data.toList)).ch (runG p o ⟨0, 0, []⟩ (linesG [] s.data.toList)).out ∧ Gf w wr S) := hd (by
          have h := HR.out
          rw [HD.out, linesG, show s.size - a = 0 by omega, List.take_zero, if_pos rfl] at h
          rw [← h]
          exact ⟨Hmi.out, HGi.out⟩)
        go_wp2
        go_end0
        exact ⟨rfl, HF.out⟩
end Go.Proofs.YtldiemjlpnachabDoor
