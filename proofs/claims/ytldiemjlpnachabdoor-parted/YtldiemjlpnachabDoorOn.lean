import Derived.Test.YtldiemjlpnachabDoorOm
/- Only: the law. -/
namespace Go.Proofs.YtldiemjlpnachabDoor
open Go.RowKit

theorem grepE_bad {p t : List UInt8} (o : Opt) (h : 4000 < t.length ∨ (parseT p).1 ≠ 0) : grepE p t o = ([], 2) := by
  unfold grepE
  by_cases h4 : 4000 < t.length
  · rw [if_pos h4]
  · rw [if_neg h4, if_pos (h.resolve_left h4)]
theorem grepE_good {p t : List UInt8} (o : Opt) (h4 : ¬ 4000 < t.length) (hp : (parseT p).1 = 0) (hc : o.count = false) : grepE p t o = ((runG p o ⟨0, 0, []⟩ (linesG [] t)).out, if 0 < (chosen p o.invert (linesG [] t)).length then 0 else 1) := by
  unfold grepE
  rw [if_neg h4, if_neg (by rw [hp]; simp), if_neg (by rw [hc]; simp), runG_ch, Nat.zero_add]
theorem grepE_plain {p t : List UInt8} (h4 : ¬ 4000 < t.length) (hp : (parseT p).1 = 0) (iv : Bool) : grepE p t ⟨false, iv, false, false⟩ = ((chosen p iv (linesG [] t)).flatMap fun s => s ++ [10], if 0 < (chosen p iv (linesG [] t)).length then 0 else 1) := by
  rw [grepE_good _ h4 hp rfl, out_plain, List.nil_append]
theorem grepE_only {p t : List UInt8} (h4 : ¬ 4000 < t.length) (hp : (parseT p).1 = 0) : grepE p t ⟨true, false, false, false⟩ = ((chosen p false (linesG [] t)).flatMap fun s => outs s (allL p s), if 0 < (chosen p false (linesG [] t)).length then 0 else 1) := by
  rw [grepE_good _ h4 hp rfl, out_only, List.nil_append]
theorem chosen_len (p : List UInt8) (iv : Bool) (ls : List (List UInt8)) : (chosen p iv ls).length ≤ ls.length := List.length_filter_le _ _
theorem linesG_len : ∀ (t cur : List UInt8), (linesG cur t).length ≤ t.length + 1
  | [], cur => by rw [linesG]; split <;> simp
  | c :: r, cur => by
    rw [linesG]
    split
    · have := linesG_len r []; simp; omega
    · have := linesG_len r (cur ++ [c]); simp; omega
theorem outs_le (s : List UInt8) : ∀ (L : List (Nat × Nat)), (outs s L).length ≤ L.length * (s.length + 1)
  | [] => by simp [outs]
  | z :: r => by
    have h1 := outs_le s r
    have h3 : (cut s z).length ≤ s.length := by unfold cut; rw [List.length_take, List.length_drop]; omega
    have e : outs s (z :: r) = (cut s z ++ [10]) ++ outs s r := by unfold outs; rw [List.flatMap_cons]
    rw [e, List.length_append, List.length_append, show (z :: r).length = r.length + 1 from rfl, Nat.add_mul, Nat.one_mul, show [(10 : UInt8)].length = 1 from rfl]
    omega
theorem flat_le {F : List UInt8 → List UInt8} {m : Nat} : ∀ (ls : List (List UInt8)), (∀ s ∈ ls, (F s).length ≤ m) → (ls.flatMap F).length ≤ ls.length * m
  | [], _ => by simp
  | s :: r, h => by
    rw [List.flatMap_cons, List.length_append, List.length_cons, Nat.add_mul, Nat.one_mul]
    have h1 := flat_le r (fun x hx => h x (List.mem_cons_of_mem _ hx))
    have h2 := h s List.mem_cons_self
    omega
theorem sts_get (ls : List (List UInt8)) (k : Nat) (h : k < ls.length) : (sts (ls.map fun s => s ++ [10]))[k]? = some (.string ⟨(ls[k] ++ [10]).toArray⟩) := by
  unfold sts
  rw [List.getElem?_map, List.getElem?_map, List.getElem?_eq_getElem h]
  rfl
set_option maxRecDepth 100000 in
set_option maxHeartbeats 3200000 in
theorem only_bad (w : World) (p t : ByteArray) (hn : NamesIn w) (ht : Tb w) (hp : p.size ≤ maxLen) (hts : t.size ≤ maxLen) (hbad : 4000 < t.size ∨ (parseT p.data.toList).1 ≠ 0) :
    Calls Tryd.prog 5 #[.string p, .string t] w fun e w' => e = .returned (.bool true) ∧ Below w.heap.size w w' := by
  have Hal := hd (alive_any w hn ht)
  have HE : Hid (∀ o, grepE p.data.toList t.data.toList o = ([], 2)) := hd (fun o => grepE_bad o (by rw [len_data]; exact hbad))
  have Hn := hd hn
  have Ht := hd ht
  have Hbad := hd hbad
  clear hn ht hbad
  go_enter Tryd.func5, Tryd.ntmps5
  go_wp2_with fail
  refine Hal.out.mono ?_
  rintro e0 w0 ⟨rfl, hb0⟩
  have HB0 := hd hb0
  have Hg1 := hd (ggrep_any p t ⟨false, false, false, false⟩ w0 (Hn.out.below hb0 Hn.out.lt) (Ht.out.below hb0 Ht.out.lt) hp hts)
  clear hb0 Hal
  go_wp2_with fail
  refine Hg1.out.mono ?_
  rintro e1 w1 ⟨hb1, A, rfl, hA⟩
  rw [HE.out]
  have HB1 := hd (HB0.out.trans (hb1.mono HB0.out.size))
  have Hg2 := hd (ggrep_any p t ⟨true, false, false, false⟩ w1 (Hn.out.below HB1.out Hn.out.lt) (Ht.out.below HB1.out Ht.out.lt) hp hts)
  clear hb1 hA Hg1 HB0
  go_wp2_with fail
  refine Hg2.out.mono ?_
  rintro e2 w2 ⟨hb2, B, rfl, hB⟩
  rw [HE.out] at hB
  rw [HE.out]
  obtain rfl := data_inj hB
  have HB2 := hd (HB1.out.trans (hb2.mono HB1.out.size))
  have Hc := hd (compile_any p w2 (Hn.out.below HB2.out Hn.out.lt) hp)
  clear hb2 hB Hg2 HB1 HE
  go_wp2_with fail
  refine Hc.out.mono ?_
  rintro e3 w3 ⟨hb3, hh⟩
  have HB3 := hd (HB2.out.trans (hb3.mono HB2.out.size))
  clear hb3 HB2 Hc
  rcases hh with ⟨he, g, hg, rfl, hpi⟩ | ⟨he, rfl⟩
  · have h4 : 4000 < t.size := Hbad.out.resolve_right (fun h => h he)
    have h4I : (4000 : Int) < (t.size : Int) := by omega
    clear hpi he hg
    go_wp2
    go_ret
    exact ⟨rfl, HB3.out⟩
  · have heI : (((parseT p.data.toList).1 : Int) == 0) = false := by rw [beq_eq_false_iff_ne]; exact fun h => he (by omega)
    go_wp2
    go_ret
    exact ⟨rfl, HB3.out⟩
theorem outs_all_le {p s : List UInt8} (h : s.length ≤ 4000) : (outs s (allL p s)).length ≤ 16008001 := by
  have h1 := outs_le s (allL p s)
  have h2 := Nat.mul_le_mul (allE_len p s (s.length + 1) 0) (show s.length + 1 ≤ 4001 by omega)
  have h3 : (s.length + 1) * 4001 ≤ 4001 * 4001 := Nat.mul_le_mul_right _ (by omega)
  unfold allL at h1 ⊢
  omega
theorem drop_data (B : ByteArray) (s : List UInt8) (h : B.data.toList = s ++ [10]) : (B.extract 0 s.length).data.toList = s ∧ B.size = s.length + 1 := by
  have h1 := extract_list B 0 s.length
  rw [ByteArray.toList_eq, h] at h1
  refine ⟨by rw [h1]; simp, ?_⟩
  rw [← len_data, h]
  simp
set_option maxRecDepth 100000 in
set_option maxHeartbeats 6400000 in
theorem only_good (w : World) (p t : ByteArray) (hn : NamesIn w) (ht : Tb w) (hp : p.size ≤ maxLen) (h4 : ¬ 4000 < t.size) (hok : (parseT p.data.toList).1 = 0) :
    Calls Tryd.prog 5 #[.string p, .string t] w fun e w' => e = .returned (.bool true) ∧ Below w.heap.size w w' := by
  have Hal := hd (alive_any w hn ht)
  have hts : t.size ≤ maxLen := by unfold maxLen; omega
  have h4I : ¬ (4000 : Int) < (t.size : Int) := by omega
  have h4l : ¬ 4000 < t.data.toList.length := by rw [len_data]; exact h4
  have HE0 := hd (grepE_plain h4l hok false)
  have HE1 := hd (grepE_only h4l hok)
  have Hno : Hid (∀ s ∈ chosen p.data.toList false (linesG [] t.data.toList), 10 ∉ s ∧ s.length ≤ 4000) := hd (fun s hs => ⟨(chosen_no hs).1, by have := (chosen_no hs).2; omega⟩)
  have Hcl : Hid ((chosen p.data.toList false (linesG [] t.data.toList)).length ≤ 4001) := hd (by have h1 := chosen_len p.data.toList false (linesG [] t.data.toList); have h2 := linesG_len t.data.toList []; omega)
  generalize chosen p.data.toList false (linesG [] t.data.toList) = ch at *
  have Hst : Hid ((if 0 < ch.length then 0 else 1 : Nat) ≤ 1) := hd (by split <;> omega)
  generalize (if 0 < ch.length then 0 else 1 : Nat) = st at *
  have Hn := hd hn
  have Ht := hd ht
  have Hok := hd hok
  have hcl := Hcl.out
  have hcI : (ch.length : Int) ≤ 4001 := by omega
  clear hn ht hok h4l
  go_enter Tryd.func5, Tryd.ntmps5
  go_wp2_with fail
  refine Hal.out.mono ?_
  rintro e0 w0 ⟨rfl, hb0⟩
  have HB0 := hd hb0
  have Hg1 := hd (ggrep_any p t ⟨false, false, false, false⟩ w0 (Hn.out.below hb0 Hn.out.lt) (Ht.out.below hb0 Ht.out.lt) hp hts)
  clear hb0 Hal
  go_wp2_with fail
  refine Hg1.out.mono ?_
  rintro e1 w1 ⟨hb1, A, rfl, hA⟩
  rw [HE0.out] at hA
  rw [HE0.out]
  have HA := hd hA
  have HB1 := hd (HB0.out.trans (hb1.mono HB0.out.size))
  have Hg2 := hd (ggrep_any p t ⟨true, false, false, false⟩ w1 (Hn.out.below HB1.out Hn.out.lt) (Ht.out.below HB1.out Ht.out.lt) hp hts)
  clear hb1 hA Hg1 HB0 HE0
  go_wp2_with fail
  refine Hg2.out.mono ?_
  rintro e2 w2 ⟨hb2, B, rfl, hB⟩
  rw [HE1.out] at hB
  rw [HE1.out]
  have HBd := hd hB
  have HB2 := hd (HB1.out.trans (hb2.mono HB1.out.size))
  have Hc := hd (compile_any p w2 (Hn.out.below HB2.out Hn.out.lt) hp)
  clear hb2 hB Hg2 HB1 HE1
  go_wp2_with fail
  refine Hc.out.mono ?_
  rintro e3 w3 ⟨hb3, hh⟩
  have HB3 := hd (HB2.out.trans (hb3.mono HB2.out.size))
  clear hb3 HB2 Hc
  rcases hh with ⟨_, g, hg, rfl, hpi⟩ | ⟨he, rfl⟩
  case inr => exact absurd Hok.out he
  have HP3 := hd hpi
  have HAs : Hid (A.size ≤ 1000000000000) := hd (by
    rw [← len_data, HA.out]
    have h1 := flat_le (F := fun s => s ++ [10]) (m := 4001) ch (fun s hs => by have := (Hno.out s hs).2; simp; omega)
    have h2 : ch.length * 4001 ≤ 4001 * 4001 := Nat.mul_le_mul_right _ hcl
    omega)
  have Hkl := hd (klines_any w3 A HAs.out)
  have HLK : Hid (linesK [] A.data.toList = ch.map fun s => s ++ [10]) := hd (by rw [HA.out]; exact linesK_flat ch (fun s hs => (Hno.out s hs).1))
  clear hpi hg HA HAs
  go_wp2_with fail
  refine Hkl.out.mono ?_
  rintro e4 w4 ⟨v, rfl, hb4, ho4⟩
  rw [HLK.out, List.length_map] at ho4
  obtain ⟨va, vc, rfl⟩ := owns_shape ho4
  have HO4 := hd ho4
  have HB4 := hd (HB3.out.trans (hb4.mono HB3.out.size))
  have HP4 := hd (HP3.out.below hb4)
  clear ho4 hb4 HB3 HP3 Hkl HLK
  go_wp2_with fail
  go_loopg [12, 66] (ch.length + 1) (fun f wv kv wr => ∃ (k : Nat) (W : ByteArray), wv = .string W ∧ kv = .int .i64 k ∧ k ≤ ch.length ∧ ch.length < k + f ∧ Hid (W.data.toList = (ch.take k).flatMap fun s => outs s (allL p.data.toList s)) ∧ Hid (Below w4.heap.size w4 wr))
  case atStart => exact ⟨0, ⟨#[]⟩, rfl, rfl, Nat.zero_le _, by omega, hd rfl, hd (Below.refl _ _)⟩
  case round =>
    obtain ⟨k, W, rfl, rfl, hkl, hkf, HW, HBk⟩ := hrel
    have hk0 : (0 : Int) ≤ (k : Int) := by omega
    by_cases hlt : k < ch.length
    · have hlt1 : (k : Int) < (ch.length : Int) := by omega
      obtain ⟨gf, rfl⟩ : ∃ f, gk = f + 1 := ⟨gk - 1, by omega⟩
      obtain ⟨b, cp, he, hbb, hbl⟩ := HO4.out.form (by omega)
      cases he
      have d0 : wr.cell? ⟨b, k, none⟩ = some (.string ⟨(ch[k] ++ [10]).toArray⟩) := (HBk.out.cell (by exact hbl)).trans (owns_cell HO4.out k _ (sts_get ch k hlt))
      have Hck := hd (Hno.out ch[k] (List.getElem_mem hlt))
      have HTk : Hid (ch.take (k + 1) = ch.take k ++ [ch[k]]) := hd (List.take_succ_eq_append_getElem hlt)
      generalize ch[k] = s at *
      obtain ⟨D, hD⟩ : ∃ D : ByteArray, D = ⟨(s ++ [10]).toArray⟩ := ⟨_, rfl⟩
      rw [← hD] at d0
      obtain ⟨hS, hDs⟩ := drop_data D s (by rw [hD])
      have HS := hd hS
      have hD1 : (D.size : Int) - 1 = (s.length : Int) := by omega
      have hsl := Hck.out.2
      have hD2 : (s.length : Int) ≤ (D.size : Int) := by omega
      have hs0 : (0 : Int) ≤ (s.length : Int) := by omega
      have lb := World.block_lt_of_cell? _ _ d0
      clear hS hD hDs
      go_wp2_with fail
      have HSs : Hid ((D.extract 0 s.length).size = s.length) := hd (by rw [← len_data, HS.out])
      generalize D.extract 0 s.length = S at *
      have HPk := hd (HP4.out.below HBk.out)
      refine (all_any w2 wr g p.data.toList S Hok.out HPk.out (by rw [HSs.out]; omega)).mono ?_
      rintro e5 w5 ⟨v5, rfl, hb5, ho5⟩
      rw [HS.out, HSs.out] at ho5
      have HoA : Hid (okA p.data.toList s 0 (allL p.data.toList s)) := hd (allE_ok Hok.out _ _)
      have HlA : Hid ((allL p.data.toList s).length ≤ s.length + 1) := hd (allE_len _ _ _ _)
      have HTe : Hid (∀ X : List UInt8, X = (ch.take k).flatMap (fun s => outs s (allL p.data.toList s)) ++ outs s (allL p.data.toList s) → X = (ch.take (k + 1)).flatMap fun s => outs s (allL p.data.toList s)) := hd (fun X h => by rw [h, HTk.out, List.flatMap_append, List.flatMap_cons, List.flatMap_nil, List.append_nil])
      have ho5' : w5.ownsRow wr.heap.size 43 2 v5 (allL p.data.toList s).length (spc (allL p.data.toList s)) := ho5
      have HWl : Hid (((ch.take k).flatMap (fun s => outs s (allL p.data.toList s))).length ≤ 64048012001) := hd (by
        have h1 := flat_le (F := fun s => outs s (allL p.data.toList s)) (m := 16008001) (ch.take k) (fun s hs => outs_all_le (Hno.out s (List.mem_of_mem_take hs)).2)
        have h2 : (ch.take k).length * 16008001 ≤ 4001 * 16008001 := Nat.mul_le_mul_right _ (by rw [List.length_take]; omega)
        omega)
      have HLl : Hid (∀ j, (outs s ((allL p.data.toList s).take j)).length ≤ 16008001) := hd (fun j => by
        have h1 := outs_le s ((allL p.data.toList s).take j)
        have h2 : ((allL p.data.toList s).take j).length ≤ 4001 := by rw [List.length_take]; have := HlA.out; omega
        have h3 := Nat.mul_le_mul h2 (show s.length + 1 ≤ 4001 by omega)
        omega)
      clear ho5 HTk
      generalize hLe : allL p.data.toList s = L at *
      clear hLe
      obtain ⟨xa, xc, rfl⟩ := owns_shape ho5'
      have HO5 := hd ho5'
      have HB5 := hd (HBk.out.trans (hb5.mono HBk.out.size))
      have HP5 := hd (HPk.out.below hb5)
      have hLn := HlA.out
      have hLi : (L.length : Int) ≤ 4001 := by omega
      clear hb5 ho5' HPk HBk d0 lb hD1 hD2 HlA
      go_wp2_with fail
      go_loopg [12, 15, 79] (L.length + 1) (fun f wv lv jv wq => ∃ (j last : Nat) (V : ByteArray), wv = .string V ∧ lv = .int .i64 last ∧ jv = .int .i64 j ∧ j ≤ L.length ∧ L.length < j + f ∧ Hid (okA p.data.toList s last (L.drop j)) ∧ Hid (V.data.toList = (ch.take k).flatMap (fun s => outs s (allL p.data.toList s)) ++ outs s (L.take j)) ∧ Hid (Below w5.heap.size w5 wq))
      case atStart => exact ⟨0, 0, W, rfl, rfl, rfl, Nat.zero_le _, by omega, HoA, hd (by rw [HW.out]; simp [outs]), hd (Below.refl _ _)⟩
      case round =>
        obtain ⟨j, last, V, rfl, rfl, rfl, hjl, hjf, Hoj, HV, HBj⟩ := hrel
        have hj0 : (0 : Int) ≤ (j : Int) := by omega
        by_cases hltj : j < L.length
        · have hltj1 : (j : Int) < (L.length : Int) := by omega
          obtain ⟨bx, cx, he, hbxb, hbxl⟩ := HO5.out.form (by omega)
          cases he
          obtain ⟨z1, z2⟩ := spc_get L j L[j] (List.getElem?_eq_getElem hltj)
          have d1 : wr.cell? ⟨bx, j * 2, none⟩ = some (.int .i64 L[j].1) := (HBj.out.cell (by exact hbxl)).trans (owns_cell HO5.out _ _ z1)
          have d2 : wr.cell? ⟨bx, j * 2 + 1, none⟩ = some (.int .i64 L[j].2) := (HBj.out.cell (by exact hbxl)).trans (owns_cell HO5.out _ _ z2)
          have hoj := Hoj.out
          rw [List.drop_eq_getElem_cons hltj] at hoj
          obtain ⟨g1, g2, g3, g4, g5⟩ := hoj
          have HT : Hid (L.take (j + 1) = L.take j ++ [L[j]]) := hd (List.take_succ_eq_append_getElem hltj)
          have Ho2 := hd g5
          clear g5 z1 z2
          generalize L[j] = z at *
          obtain ⟨x, y⟩ := z
          simp only at d1 d2 g1 g2 g3 g4
          have hx0 : (0 : Int) ≤ (x : Int) := by omega
          have hxl : ¬ (x : Int) < (last : Int) := by omega
          have hyx : ¬ (y : Int) ≤ (x : Int) := by omega
          have hys : ¬ (s.length : Int) < (y : Int) := by omega
          have hxy : (x : Int) ≤ (y : Int) := by omega
          have hSs : (S.size : Int) = (s.length : Int) := by rw [HSs.out]
          have HF : Hid (findI p.data.toList S.data.toList x = some (x, y)) := hd (by rw [findI_nat _ _ (by rw [HS.out]; omega), HS.out]; exact g4)
          have lbx := World.block_lt_of_cell? _ _ d1
          clear g4 Hoj
          go_wp2_with fail
          have hY := heap_alloc_new wr (.cells #[.int .i64 x, .int .i64 y] 43)
          have HBa : Hid (Below w5.heap.size w5 (wr.alloc (.cells #[.int .i64 x, .int .i64 y] 43))) := hd (HBj.out.trans ((Below.refl _ _).alloc HBj.out.size _))
          have hza : (wr.alloc (.cells #[.int .i64 x, .int .i64 y] 43)).heap.size = wr.heap.size + 1 := by simp
          generalize wr.alloc (.cells #[.int .i64 x, .int .i64 y] 43) = W2 at *
          refine (pfind_fun w2 W2 g p.data.toList S x Hok.out (HP5.out.below HBa.out) (by rw [HSs.out]; omega)).mono ?_
          rintro e6 w6 ⟨rfl, hb6⟩
          rw [HF.out, resE]
          have hY6 := (hb6.block wr.heap.size (by omega)).trans hY
          have q0 : w6.cell? ⟨wr.heap.size, 0, none⟩ = some (.int .i64 x) := by rw [cell_of_row _ _ _ _ _ _ hY6]; rfl
          have q1 : w6.cell? ⟨wr.heap.size, 1, none⟩ = some (.int .i64 y) := by rw [cell_of_row _ _ _ _ _ _ hY6]; rfl
          have HB6 := hd (HBa.out.trans (hb6.mono HBa.out.size))
          have lY := World.block_lt_of_cell? _ _ q0
          have HX : Hid ((S.extract x y).data.toList = cut s (x, y)) := hd (by
            have := extract_list S x y
            rw [ByteArray.toList_eq, HS.out] at this
            exact this)
          have HV2 : Hid ((V ++ (S.extract x y ++ ⟨#[10]⟩)).data.toList = (ch.take k).flatMap (fun s => outs s (allL p.data.toList s)) ++ outs s (L.take (j + 1))) := hd (by
            rw [app_l, app_l, HV.out, HX.out, HT.out, outs_snoc, List.append_assoc])
          have hVs : V.size ≤ 64064020002 := by
            rw [← len_data, HV.out, List.length_append]
            have := HWl.out
            have := HLl.out j
            omega
          have hXs : (S.extract x y).size ≤ 4000 := by
            rw [← len_data, HX.out]
            unfold cut
            rw [List.length_take, List.length_drop]
            omega
          clear hb6 hY hY6 HBa hza d1 d2 lbx HV HX HBj
          go_wp2
          go_roundg (gk - 1)
          case measure => omega
          case rel => exact ⟨j + 1, y, V ++ (S.extract x y ++ ⟨#[10]⟩), rfl, rfl, by go_num, by omega, by omega, Ho2, HV2, HB6⟩
        · obtain rfl : j = L.length := by omega
          have HV2 : Hid (V.data.toList = (ch.take (k + 1)).flatMap fun s => outs s (allL p.data.toList s)) := hd (HTe.out _ (by rw [HV.out, List.take_length]))
          have HB6 := hd (HB5.out.trans (HBj.out.mono HB5.out.size))
          clear HV HBj Hoj
          go_wp2
          go_roundg gf
          case measure => omega
          case rel => exact ⟨k + 1, V, rfl, by go_num, by omega, by omega, HV2, HB6⟩
    · obtain rfl : k = ch.length := by omega
      have HF : W = B := by
        have h := HW.out
        rw [List.take_length, ← HBd.out] at h
        have := data_inj h
        rw [this]
      subst HF
      have HBf := hd (HB4.out.trans (HBk.out.mono HB4.out.size))
      clear HW HBk HO4
      go_wp2
      go_ret
      exact ⟨rfl, HBf.out⟩
/-- ONLY, at every pattern and every text. -/
theorem konly_any (w : World) (p t : ByteArray) (hn : NamesIn w) (ht : Tb w) (hp : p.size ≤ maxLen) (hts : t.size ≤ maxLen) :
    Calls Tryd.prog 5 #[.string p, .string t] w fun e w' => e = .returned (.bool true) ∧ Below w.heap.size w w' := by
  by_cases h4 : 4000 < t.size
  · exact only_bad w p t hn ht hp hts (.inl h4)
  · by_cases hok : (parseT p.data.toList).1 = 0
    · exact only_good w p t hn ht hp h4 hok
    · exact only_bad w p t hn ht hp hts (.inr hok)
end Go.Proofs.YtldiemjlpnachabDoor
