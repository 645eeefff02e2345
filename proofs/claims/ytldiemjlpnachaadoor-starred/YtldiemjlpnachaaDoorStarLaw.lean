import Derived.Test.YtldiemjlpnachaaDoorStar
import Derived.Test.YtldiemjlpnachaaDoorCntLaw
namespace Go.Proofs.YtldiemjlpnachaaDoor
open Go.RowKit

theorem abc_head (v V : ByteArray) (hV : V.data.toList = (v ++ { data := #[97] } : ByteArray).data.toList.map abcC) : ∃ C : ByteArray, V.extract 0 1 = C ∧ ∃ cc, C.data.toList = [cc] ∧ spec cc = false ∧ 1 ≤ V.size := by
  have hl : 0 < V.data.toList.length := by rw [hV, app_list]; simp
  rw [len_data] at hl
  refine ⟨_, rfl, V[0], ext_one V 0 hl, ?_, hl⟩
  have : V[0] ∈ V.data.toList := by
    have h2 := ext_one V 0 hl
    have : V[0] = V.data.toList[0]'(by rw [len_data]; exact hl) := rfl
    rw [this]
    exact List.getElem_mem _
  rw [hV, List.mem_map] at this
  obtain ⟨d, _, e⟩ := this
  rw [← e]
  exact spec_abc d
set_option maxHeartbeats 6400000 in
set_option maxRecDepth 100000 in
theorem starred_any (u v ww s : ByteArray) (w : World) (hn : NamesIn w) (hu : u.size ≤ 140737488351232) (hv : v.size ≤ 140737488351232) (hww : ww.size ≤ 140737488351232) (hs : s.size ≤ 140737488351232) :
    Calls Tryd.prog 11 #[.string u, .string v, .string ww, .string s] w fun e w' => e = .returned (.bool true) ∧ Below w.heap.size w w' := by
  have Hn := hd hn
  have Hvs : Hid ((v ++ { data := #[97] } : ByteArray).size ≤ 140737488351300) := hd (by
    have : (v ++ { data := #[97] } : ByteArray).size = v.size + 1 := by rw [ByteArray.size_append]; rfl
    omega)
  have Hva := hd (fun w0 => abc_any (v ++ { data := #[97] }) w0 Hvs.out)
  clear hn
  go_enter Tryd.func11, Tryd.ntmps11
  go_wp2_with fail
  refine (abc_any u w (by omega)).mono ?_
  rintro e w1 ⟨⟨U, rfl, hU⟩, hb1⟩
  have Hb1 := hd hb1
  clear hb1
  go_wp2_with fail
  refine (abc_any ww w1 (by omega)).mono ?_
  rintro e w2 ⟨⟨W, rfl, hW⟩, hb2⟩
  have Hb2 := hd (Hb1.out.trans (hb2.mono Hb1.out.size))
  clear hb2
  go_wp2_with fail
  refine (abc_any s w2 (by omega)).mono ?_
  rintro e w3 ⟨⟨S, rfl, hS⟩, hb3⟩
  have Hb3 := hd (Hb2.out.trans (hb3.mono Hb2.out.size))
  clear hb3
  go_wp2_with fail
  refine (Hva.out w3).mono ?_
  rintro e w4 ⟨⟨V, rfl, hV⟩, hb4⟩
  have Hb4 := hd (Hb3.out.trans (hb4.mono Hb3.out.size))
  clear hb4 Hb1 Hb2 Hb3
  have hUs : U.size ≤ 140737488351232 := by have := congrArg List.length hU; simp at this; omega
  have hWs : W.size ≤ 140737488351232 := by have := congrArg List.length hW; simp at this; omega
  have hSs : S.size ≤ 140737488351232 := by have := congrArg List.length hS; simp at this; omega
  obtain ⟨C, hC, cc, hCl, hcc, hV1⟩ := abc_head v V hV
  have HUw : Hid (∀ c ∈ U.data.toList, spec c = false) := hd (fun c hc => by
    rw [hU, List.mem_map] at hc
    obtain ⟨d, _, rfl⟩ := hc
    exact spec_abc d)
  have HWw : Hid (∀ c ∈ W.data.toList, spec c = false) := hd (fun c hc => by
    rw [hW, List.mem_map] at hc
    obtain ⟨d, _, rfl⟩ := hc
    exact spec_abc d)
  have HUl := hd (len_data U)
  have HWl := hd (len_data W)
  have HSl := hd (len_data S)
  have HCl := hd hCl
  have Hcc := hd hcc
  have hCs : C.size = 1 := by rw [← len_data, hCl]; rfl
  have hV1I : (1 : Int) ≤ (V.size : Int) := by omega
  clear hU hW hS hV hCl hcc hu hv hww hs hV1
  by_cases hU0 : U.size = 0
  · have hUe : U.toList.isEmpty = true := by
      have : U = ⟨#[]⟩ := by
        apply ByteArray.ext
        apply Array.eq_empty_of_size_eq_zero
        exact hU0
      rw [this, ByteArray.toList_eq]; rfl
    have HU0 : Hid (U.data.toList = []) := hd (List.eq_nil_of_length_eq_zero (by rw [len_data]; exact hU0))
    go_wp2_with fail
    have HP : Hid (({ data := #[92, 40] } ++ C ++ { data := #[92, 41, 42] } ++ W : ByteArray).data.toList = [92, 40] ++ ([cc] ++ ([92, 41] ++ ([42] ++ W.data.toList)))) := hd (by
      simp only [app_list, HCl.out]
      simp)
    have HPs : Hid (({ data := #[92, 40] } ++ C ++ { data := #[92, 41, 42] } ++ W : ByteArray).size = U.size + W.size + 6) := hd (by
      rw [← len_data, HP.out]
      simp only [List.length_append, HWl.out, List.length_cons, List.length_nil]
      omega)
    generalize { data := #[92, 40] } ++ C ++ { data := #[92, 41, 42] } ++ W = P at HP HPs ⊢
    clear hC
    have Hnf := hd (Hn.out.below Hb4.out Hn.out.lt)
    refine (fits_any P S _ (by have := HPs.out; omega) (by omega)).mono ?_
    rintro e w5 ⟨⟨b, rfl, hb⟩, rfl⟩
    cases b
    · go_wp2
      go_ret
      exact ⟨rfl, Hb4.out⟩
    · obtain ⟨hlf, hp60, hs1024⟩ := hb rfl
      have hus : U.size + W.size ≤ 60 := by have := HPs.out; omega
      rw [HP.out] at hlf
      have hpl : ([92, 40] ++ ([cc] ++ ([92, 41] ++ ([42] ++ W.data.toList)))).length ≤ 60 := by rw [← HP.out, len_data]; exact hp60
      have Hpar := hd (starB_parse W.data.toList cc HWw.out Hcc.out hpl hlf)
      have Hrow : Hid (∀ i j, i ≤ S.data.toList.length → (MtRow S.data.toList ((itsT ([92, 40] ++ ([cc] ++ ([92, 41] ++ ([42] ++ W.data.toList))))).map (·.3)) i j ↔ starM S.data.toList U.data.toList cc W.data.toList i j)) := hd (by
        intro i j hi
        rw [Hpar.out.2.2]
        rw [HU0.out]; exact starB_row S.data.toList W.data.toList cc i j hi)
      have Hfound : Hid (∀ i j : Int, (∀ fd a b, FindRes S.data.toList.length (fun x y => MtRow S.data.toList ((itsT ([92, 40] ++ ([cc] ++ ([92, 41] ++ ([42] ++ W.data.toList))))).map (·.3)) x y) 0 fd a b → if i < 0 then fd = false ∧ a = 0 ∧ b = 0 else fd = true ∧ (a : Int) = i ∧ (b : Int) = j) → Calls Tryd.prog 24 #[.string P, .string S, .int .i64 0, .int .i64 i, .int .i64 j] w5 fun e w' => e = .returned (.bool true) ∧ Below w5.heap.size w5 w') := hd (fun i j hx =>
        found_at P S _ S.data.toList 0 i j w5 HP.out rfl Hnf.out (by rw [← HP.out, len_data]; unfold maxLen; omega) (by rw [HSl.out]; omega) Hpar.out.1 Hpar.out.2.1 hx)
      clear hlf hb hSs hUs hWs hp60 hpl Hpar
      go_wp2
      go_loop [11, 12, 13] (fun iv _ _ => ∃ i : Nat, iv = .int .i64 i ∧ i ≤ S.size + 1 ∧ Hid (∀ x, x < i → ∀ y, ¬ starM S.data.toList U.data.toList cc W.data.toList x y)) (fun iv _ _ => (S.size + 1) - (intOf iv).toNat)
      case atStart => exact ⟨0, rfl, Nat.zero_le _, hd (fun x hx => by omega)⟩
      case round =>
        obtain ⟨i, rfl, hi, HN⟩ := hrel
        by_cases hlt : i ≤ S.size
        · have hltI : (i : Int) ≤ (S.size : Int) := by omega
          have Hat := hd (at_any S U i w5 (by omega) (by omega) (by omega))
          have Hatb : Hid (atB S.data.toList U.data.toList i = (decide (i + U.size ≤ S.size) && sw S.data.toList i U.data.toList)) := hd (by unfold atB; rw [HUl.out, HSl.out])
          cases hb : (decide (i + U.size ≤ S.size) && sw S.data.toList i U.data.toList)
          · rw [hb] at Hat Hatb
            have Hn2 : Hid (∀ x, x < i + 1 → ∀ y, ¬ starM S.data.toList U.data.toList cc W.data.toList x y) := hd (fun x hx y => by
              rcases Nat.lt_or_ge x i with h | h
              · exact HN.out x h y
              · have e : x = i := by omega
                rintro ⟨h1, _⟩
                rw [e, Hatb.out] at h1
                cases h1)
            clear hb
            go_wp2_with (go_at_call 26; refine Hat.out.mono ?_; rintro e w' ⟨rfl, hww⟩; have hww2 := hww.symm; clear hww; subst hww2)
            go_round
            case rel => exact ⟨i + 1, by go_num, by omega, Hn2⟩
            case measure => simp [intOf]; omega
          · rw [hb] at Hat Hatb
            have hiu : i + U.size ≤ S.size := by
              have := atB_le Hatb.out
              rw [HUl.out, HSl.out] at this
              exact this
            clear hb
            go_wp2_with (go_at_call 26; refine Hat.out.mono ?_; rintro e w' ⟨rfl, hww⟩; have hww2 := hww.symm; clear hww; subst hww2)
            go_loop [12, 13] (fun bv kv => ∃ (k t : Nat) (best : Int), kv = .int .i64 k ∧ bv = .int .i64 best ∧ Hid (k = i + U.data.toList.length + t) ∧ k ≤ S.size ∧ -1 ≤ best ∧ best ≤ 2000 ∧ Hid (runs S.data.toList [cc] (i + U.data.toList.length) t) ∧ Hid (BestI S.data.toList W.data.toList (i + U.data.toList.length) t best)) (fun _ kv => (S.size + 1) - (intOf kv).toNat)
            case atStart => exact ⟨i + U.size, 0, -1, by go_num, rfl, hd (by rw [HUl.out]; rfl), by omega, by omega, by omega, hd trivial, hd (.inl ⟨rfl, fun x hx => by omega⟩)⟩
            case round =>
              obtain ⟨k, t, best, rfl, rfl, Hk, hkS, hb0, hb1, HR, HB⟩ := hrel
              have Hyes : Hid (∀ bb : Int, BestI S.data.toList W.data.toList (i + U.data.toList.length) (t + 1) bb → atB S.data.toList [cc] (i + U.data.toList.length + t) = false → 0 ≤ bb → Calls Tryd.prog 24 #[.string P, .string S, .int .i64 0, .int .i64 (i : Int), .int .i64 bb] w5 fun e w' => e = .returned (.bool true) ∧ Below w5.heap.size w5 w') := hd (fun bb g1 g2 g3 =>
                Hfound.out i bb (star_yes S.data.toList U.data.toList W.data.toList cc _ Hrow.out i t bb (by rw [HSl.out]; exact hlt) Hatb.out HR.out g2 g1 g3 HN.out))
              have Hno : Hid (∀ bb : Int, BestI S.data.toList W.data.toList (i + U.data.toList.length) (t + 1) bb → atB S.data.toList [cc] (i + U.data.toList.length + t) = false → ¬ 0 ≤ bb → ∀ x, x < i + 1 → ∀ y, ¬ starM S.data.toList U.data.toList cc W.data.toList x y) := hd (fun bb g1 g2 g3 x hx y => by
                rcases Nat.lt_or_ge x i with h | h
                · exact HN.out x h y
                · have e : x = i := by omega
                  rw [e]
                  exact star_not g2 g1 g3 y)
              have Hat2 := hd (at_any S W k w5 (by omega) (by omega) (by omega))
              have Hatb2 : Hid (atB S.data.toList W.data.toList (i + U.data.toList.length + t) = (decide (k + W.size ≤ S.size) && sw S.data.toList k W.data.toList)) := hd (by rw [← Hk.out]; unfold atB; rw [HWl.out, HSl.out])
              cases hb2 : (decide (k + W.size ≤ S.size) && sw S.data.toList k W.data.toList)
              · rw [hb2] at Hatb2
                have HB2 : Hid (BestI S.data.toList W.data.toList (i + U.data.toList.length) (t + 1) best) := hd (best_no HB.out Hatb2.out)
                rw [hb2] at Hat2
                clear hb2 HB
                by_cases hk : k < S.size
                · have k0 : (0 : Int) ≤ (k : Int) := by omega
                  have k1 : (k : Int) < (S.size : Int) := by omega
                  have Hsc : Hid (((S.extract k (k + 1)).toList == C.toList) = atB S.data.toList [cc] (i + U.data.toList.length + t)) := hd (by
                    have h1 := sw_yes S C k
                    rw [hCs, HCl.out] at h1
                    rw [← Hk.out]
                    rw [h1]
                    unfold atB
                    rw [HSl.out, List.length_singleton]
                    have : decide (k + 1 ≤ S.size) = true := by simp; omega
                    rw [this]
                    rfl)
                  cases hsc : ((S.extract k (k + 1)).toList == C.toList)
                  · have Hend : Hid (atB S.data.toList [cc] (i + U.data.toList.length + t) = false) := hd (by rw [← Hsc.out]; exact hsc)
                    clear Hsc
                    by_cases h0 : 0 ≤ best
                    · have Hc := hd (Hyes.out best HB2.out Hend.out h0)
                      go_wp2_with (first | (go_at_call 26; refine Hat2.out.mono ?_; rintro e w' ⟨rfl, hww⟩; have hww2 := hww.symm; clear hww; subst hww2) | (go_at_call 24; refine Hc.out.mono ?_; rintro e w6 ⟨rfl, hb6⟩; have Hb6 := hd (Hb4.out.trans (hb6.mono Hb4.out.size)); clear hb6))
                      go_ret
                      exact ⟨rfl, Hb6.out⟩
                    · have Hn2 := hd (Hno.out best HB2.out Hend.out h0)
                      go_wp2_with (go_at_call 26; refine Hat2.out.mono ?_; rintro e w' ⟨rfl, hww⟩; have hww2 := hww.symm; clear hww; subst hww2)
                      go_round
                      case rel => exact ⟨i + 1, by go_num, by omega, Hn2⟩
                      case measure => simp [intOf]; omega
                  · have Hr2 : Hid (runs S.data.toList [cc] (i + U.data.toList.length) (t + 1)) := hd ((runs_snoc S.data.toList [cc] t _).2 ⟨HR.out, by rw [List.length_singleton, Nat.mul_one, ← Hsc.out]; exact hsc⟩)
                    have Hk2 : Hid (k + 1 = i + U.data.toList.length + (t + 1)) := hd (by have := Hk.out; omega)
                    clear Hsc
                    go_wp2_with (go_at_call 26; refine Hat2.out.mono ?_; rintro e w' ⟨rfl, hww⟩; have hww2 := hww.symm; clear hww; subst hww2)
                    go_round
                    case rel => exact ⟨k + 1, t + 1, best, by go_num, rfl, Hk2, by omega, by omega, by omega, Hr2, HB2⟩
                    case measure => simp [intOf]; omega
                · have k1 : ¬ (k : Int) < (S.size : Int) := by omega
                  have Hend : Hid (atB S.data.toList [cc] (i + U.data.toList.length + t) = false) := hd (by
                    rw [← Hk.out]
                    unfold atB
                    rw [HSl.out, List.length_singleton]
                    have : decide (k + 1 ≤ S.size) = false := by simp; omega
                    rw [this]
                    rfl)
                  by_cases h0 : 0 ≤ best
                  · have Hc := hd (Hyes.out best HB2.out Hend.out h0)
                    go_wp2_with (first | (go_at_call 26; refine Hat2.out.mono ?_; rintro e w' ⟨rfl, hww⟩; have hww2 := hww.symm; clear hww; subst hww2) | (go_at_call 24; refine Hc.out.mono ?_; rintro e w6 ⟨rfl, hb6⟩; have Hb6 := hd (Hb4.out.trans (hb6.mono Hb4.out.size)); clear hb6))
                    go_ret
                    exact ⟨rfl, Hb6.out⟩
                  · have Hn2 := hd (Hno.out best HB2.out Hend.out h0)
                    go_wp2_with (go_at_call 26; refine Hat2.out.mono ?_; rintro e w' ⟨rfl, hww⟩; have hww2 := hww.symm; clear hww; subst hww2)
                    go_round
                    case rel => exact ⟨i + 1, by go_num, by omega, Hn2⟩
                    case measure => simp [intOf]; omega
              · rw [hb2] at Hatb2
                have hkw : k + W.size ≤ S.size := by
                  have := atB_le Hatb2.out
                  rw [HWl.out, HSl.out, ← Hk.out] at this
                  exact this
                have HB2 : Hid (BestI S.data.toList W.data.toList (i + U.data.toList.length) (t + 1) ((k : Int) + (W.size : Int))) := hd (best_yes Hatb2.out _ (by rw [HWl.out, ← Hk.out, Int.natCast_add]))
                rw [hb2] at Hat2
                clear hb2 HB
                by_cases hk : k < S.size
                · have k0 : (0 : Int) ≤ (k : Int) := by omega
                  have k1 : (k : Int) < (S.size : Int) := by omega
                  have Hsc : Hid (((S.extract k (k + 1)).toList == C.toList) = atB S.data.toList [cc] (i + U.data.toList.length + t)) := hd (by
                    have h1 := sw_yes S C k
                    rw [hCs, HCl.out] at h1
                    rw [← Hk.out]
                    rw [h1]
                    unfold atB
                    rw [HSl.out, List.length_singleton]
                    have : decide (k + 1 ≤ S.size) = true := by simp; omega
                    rw [this]
                    rfl)
                  cases hsc : ((S.extract k (k + 1)).toList == C.toList)
                  · have Hend : Hid (atB S.data.toList [cc] (i + U.data.toList.length + t) = false) := hd (by rw [← Hsc.out]; exact hsc)
                    clear Hsc
                    by_cases h0 : 0 ≤ ((k : Int) + (W.size : Int))
                    · have Hc := hd (Hyes.out ((k : Int) + (W.size : Int)) HB2.out Hend.out h0)
                      go_wp2_with (first | (go_at_call 26; refine Hat2.out.mono ?_; rintro e w' ⟨rfl, hww⟩; have hww2 := hww.symm; clear hww; subst hww2) | (go_at_call 24; refine Hc.out.mono ?_; rintro e w6 ⟨rfl, hb6⟩; have Hb6 := hd (Hb4.out.trans (hb6.mono Hb4.out.size)); clear hb6))
                      go_ret
                      exact ⟨rfl, Hb6.out⟩
                    · omega
                  · have Hr2 : Hid (runs S.data.toList [cc] (i + U.data.toList.length) (t + 1)) := hd ((runs_snoc S.data.toList [cc] t _).2 ⟨HR.out, by rw [List.length_singleton, Nat.mul_one, ← Hsc.out]; exact hsc⟩)
                    have Hk2 : Hid (k + 1 = i + U.data.toList.length + (t + 1)) := hd (by have := Hk.out; omega)
                    clear Hsc
                    go_wp2_with (go_at_call 26; refine Hat2.out.mono ?_; rintro e w' ⟨rfl, hww⟩; have hww2 := hww.symm; clear hww; subst hww2)
                    go_round
                    case rel => exact ⟨k + 1, t + 1, ((k : Int) + (W.size : Int)), by go_num, rfl, Hk2, by omega, by omega, by omega, Hr2, HB2⟩
                    case measure => simp [intOf]; omega
                · have k1 : ¬ (k : Int) < (S.size : Int) := by omega
                  have Hend : Hid (atB S.data.toList [cc] (i + U.data.toList.length + t) = false) := hd (by
                    rw [← Hk.out]
                    unfold atB
                    rw [HSl.out, List.length_singleton]
                    have : decide (k + 1 ≤ S.size) = false := by simp; omega
                    rw [this]
                    rfl)
                  by_cases h0 : 0 ≤ ((k : Int) + (W.size : Int))
                  · have Hc := hd (Hyes.out ((k : Int) + (W.size : Int)) HB2.out Hend.out h0)
                    go_wp2_with (first | (go_at_call 26; refine Hat2.out.mono ?_; rintro e w' ⟨rfl, hww⟩; have hww2 := hww.symm; clear hww; subst hww2) | (go_at_call 24; refine Hc.out.mono ?_; rintro e w6 ⟨rfl, hb6⟩; have Hb6 := hd (Hb4.out.trans (hb6.mono Hb4.out.size)); clear hb6))
                    go_ret
                    exact ⟨rfl, Hb6.out⟩
                  · omega
        · have hltI : ¬ (i : Int) ≤ (S.size : Int) := by omega
          have Hc := hd (Hfound.out (-1) 0 (star_no S.data.toList U.data.toList W.data.toList cc _ Hrow.out (fun x hx => HN.out x (by rw [HSl.out] at hx; omega))))
          go_wp2_with fail
          refine Hc.out.mono ?_
          rintro e w6 ⟨rfl, hb6⟩
          have Hb6 := hd (Hb4.out.trans (hb6.mono Hb4.out.size))
          clear hb6
          go_wp2
          go_ret
          exact ⟨rfl, Hb6.out⟩
  · have hUe : U.toList.isEmpty = false := by
      rw [ByteArray.toList_eq]
      cases h : U.data.toList with
      | nil => have h2 := congrArg List.length h; rw [len_data] at h2; exact absurd h2 hU0
      | cons _ _ => rfl
    go_wp2_with fail
    have HP : Hid ((U ++ C ++ { data := #[42] } ++ W : ByteArray).data.toList = U.data.toList ++ [cc] ++ ([42] ++ W.data.toList)) := hd (by
      simp only [app_list, HCl.out]
      simp)
    have HPs : Hid ((U ++ C ++ { data := #[42] } ++ W : ByteArray).size = U.size + W.size + 2) := hd (by
      rw [← len_data, HP.out]
      simp only [List.length_append, HUl.out, HWl.out, List.length_cons, List.length_nil]
      omega)
    generalize U ++ C ++ { data := #[42] } ++ W = P at HP HPs ⊢
    clear hC
    have Hnf := hd (Hn.out.below Hb4.out Hn.out.lt)
    refine (fits_any P S _ (by have := HPs.out; omega) (by omega)).mono ?_
    rintro e w5 ⟨⟨b, rfl, hb⟩, rfl⟩
    cases b
    · go_wp2
      go_ret
      exact ⟨rfl, Hb4.out⟩
    · obtain ⟨hlf, hp60, hs1024⟩ := hb rfl
      have hus : U.size + W.size ≤ 60 := by have := HPs.out; omega
      rw [HP.out] at hlf
      have hpl : (U.data.toList ++ [cc] ++ ([42] ++ W.data.toList)).length ≤ 60 := by rw [← HP.out, len_data]; exact hp60
      have Hpar := hd (starA_parse U.data.toList W.data.toList cc HUw.out HWw.out Hcc.out hpl hlf)
      have Hrow : Hid (∀ i j, i ≤ S.data.toList.length → (MtRow S.data.toList ((itsT (U.data.toList ++ [cc] ++ ([42] ++ W.data.toList))).map (·.3)) i j ↔ starM S.data.toList U.data.toList cc W.data.toList i j)) := hd (by
        intro i j hi
        rw [Hpar.out.2.2]
        exact starA_row S.data.toList U.data.toList W.data.toList cc i j hi)
      have Hfound : Hid (∀ i j : Int, (∀ fd a b, FindRes S.data.toList.length (fun x y => MtRow S.data.toList ((itsT (U.data.toList ++ [cc] ++ ([42] ++ W.data.toList))).map (·.3)) x y) 0 fd a b → if i < 0 then fd = false ∧ a = 0 ∧ b = 0 else fd = true ∧ (a : Int) = i ∧ (b : Int) = j) → Calls Tryd.prog 24 #[.string P, .string S, .int .i64 0, .int .i64 i, .int .i64 j] w5 fun e w' => e = .returned (.bool true) ∧ Below w5.heap.size w5 w') := hd (fun i j hx =>
        found_at P S _ S.data.toList 0 i j w5 HP.out rfl Hnf.out (by rw [← HP.out, len_data]; unfold maxLen; omega) (by rw [HSl.out]; omega) Hpar.out.1 Hpar.out.2.1 hx)
      clear hlf hb hSs hUs hWs hp60 hpl Hpar
      go_wp2
      go_loop [11, 12, 13] (fun iv _ _ => ∃ i : Nat, iv = .int .i64 i ∧ i ≤ S.size + 1 ∧ Hid (∀ x, x < i → ∀ y, ¬ starM S.data.toList U.data.toList cc W.data.toList x y)) (fun iv _ _ => (S.size + 1) - (intOf iv).toNat)
      case atStart => exact ⟨0, rfl, Nat.zero_le _, hd (fun x hx => by omega)⟩
      case round =>
        obtain ⟨i, rfl, hi, HN⟩ := hrel
        by_cases hlt : i ≤ S.size
        · have hltI : (i : Int) ≤ (S.size : Int) := by omega
          have Hat := hd (at_any S U i w5 (by omega) (by omega) (by omega))
          have Hatb : Hid (atB S.data.toList U.data.toList i = (decide (i + U.size ≤ S.size) && sw S.data.toList i U.data.toList)) := hd (by unfold atB; rw [HUl.out, HSl.out])
          cases hb : (decide (i + U.size ≤ S.size) && sw S.data.toList i U.data.toList)
          · rw [hb] at Hat Hatb
            have Hn2 : Hid (∀ x, x < i + 1 → ∀ y, ¬ starM S.data.toList U.data.toList cc W.data.toList x y) := hd (fun x hx y => by
              rcases Nat.lt_or_ge x i with h | h
              · exact HN.out x h y
              · have e : x = i := by omega
                rintro ⟨h1, _⟩
                rw [e, Hatb.out] at h1
                cases h1)
            clear hb
            go_wp2_with (go_at_call 26; refine Hat.out.mono ?_; rintro e w' ⟨rfl, hww⟩; have hww2 := hww.symm; clear hww; subst hww2)
            go_round
            case rel => exact ⟨i + 1, by go_num, by omega, Hn2⟩
            case measure => simp [intOf]; omega
          · rw [hb] at Hat Hatb
            have hiu : i + U.size ≤ S.size := by
              have := atB_le Hatb.out
              rw [HUl.out, HSl.out] at this
              exact this
            clear hb
            go_wp2_with (go_at_call 26; refine Hat.out.mono ?_; rintro e w' ⟨rfl, hww⟩; have hww2 := hww.symm; clear hww; subst hww2)
            go_loop [12, 13] (fun bv kv => ∃ (k t : Nat) (best : Int), kv = .int .i64 k ∧ bv = .int .i64 best ∧ Hid (k = i + U.data.toList.length + t) ∧ k ≤ S.size ∧ -1 ≤ best ∧ best ≤ 2000 ∧ Hid (runs S.data.toList [cc] (i + U.data.toList.length) t) ∧ Hid (BestI S.data.toList W.data.toList (i + U.data.toList.length) t best)) (fun _ kv => (S.size + 1) - (intOf kv).toNat)
            case atStart => exact ⟨i + U.size, 0, -1, by go_num, rfl, hd (by rw [HUl.out]; rfl), by omega, by omega, by omega, hd trivial, hd (.inl ⟨rfl, fun x hx => by omega⟩)⟩
            case round =>
              obtain ⟨k, t, best, rfl, rfl, Hk, hkS, hb0, hb1, HR, HB⟩ := hrel
              have Hyes : Hid (∀ bb : Int, BestI S.data.toList W.data.toList (i + U.data.toList.length) (t + 1) bb → atB S.data.toList [cc] (i + U.data.toList.length + t) = false → 0 ≤ bb → Calls Tryd.prog 24 #[.string P, .string S, .int .i64 0, .int .i64 (i : Int), .int .i64 bb] w5 fun e w' => e = .returned (.bool true) ∧ Below w5.heap.size w5 w') := hd (fun bb g1 g2 g3 =>
                Hfound.out i bb (star_yes S.data.toList U.data.toList W.data.toList cc _ Hrow.out i t bb (by rw [HSl.out]; exact hlt) Hatb.out HR.out g2 g1 g3 HN.out))
              have Hno : Hid (∀ bb : Int, BestI S.data.toList W.data.toList (i + U.data.toList.length) (t + 1) bb → atB S.data.toList [cc] (i + U.data.toList.length + t) = false → ¬ 0 ≤ bb → ∀ x, x < i + 1 → ∀ y, ¬ starM S.data.toList U.data.toList cc W.data.toList x y) := hd (fun bb g1 g2 g3 x hx y => by
                rcases Nat.lt_or_ge x i with h | h
                · exact HN.out x h y
                · have e : x = i := by omega
                  rw [e]
                  exact star_not g2 g1 g3 y)
              have Hat2 := hd (at_any S W k w5 (by omega) (by omega) (by omega))
              have Hatb2 : Hid (atB S.data.toList W.data.toList (i + U.data.toList.length + t) = (decide (k + W.size ≤ S.size) && sw S.data.toList k W.data.toList)) := hd (by rw [← Hk.out]; unfold atB; rw [HWl.out, HSl.out])
              cases hb2 : (decide (k + W.size ≤ S.size) && sw S.data.toList k W.data.toList)
              · rw [hb2] at Hatb2
                have HB2 : Hid (BestI S.data.toList W.data.toList (i + U.data.toList.length) (t + 1) best) := hd (best_no HB.out Hatb2.out)
                rw [hb2] at Hat2
                clear hb2 HB
                by_cases hk : k < S.size
                · have k0 : (0 : Int) ≤ (k : Int) := by omega
                  have k1 : (k : Int) < (S.size : Int) := by omega
                  have Hsc : Hid (((S.extract k (k + 1)).toList == C.toList) = atB S.data.toList [cc] (i + U.data.toList.length + t)) := hd (by
                    have h1 := sw_yes S C k
                    rw [hCs, HCl.out] at h1
                    rw [← Hk.out]
                    rw [h1]
                    unfold atB
                    rw [HSl.out, List.length_singleton]
                    have : decide (k + 1 ≤ S.size) = true := by simp; omega
                    rw [this]
                    rfl)
                  cases hsc : ((S.extract k (k + 1)).toList == C.toList)
                  · have Hend : Hid (atB S.data.toList [cc] (i + U.data.toList.length + t) = false) := hd (by rw [← Hsc.out]; exact hsc)
                    clear Hsc
                    by_cases h0 : 0 ≤ best
                    · have Hc := hd (Hyes.out best HB2.out Hend.out h0)
                      go_wp2_with (first | (go_at_call 26; refine Hat2.out.mono ?_; rintro e w' ⟨rfl, hww⟩; have hww2 := hww.symm; clear hww; subst hww2) | (go_at_call 24; refine Hc.out.mono ?_; rintro e w6 ⟨rfl, hb6⟩; have Hb6 := hd (Hb4.out.trans (hb6.mono Hb4.out.size)); clear hb6))
                      go_ret
                      exact ⟨rfl, Hb6.out⟩
                    · have Hn2 := hd (Hno.out best HB2.out Hend.out h0)
                      go_wp2_with (go_at_call 26; refine Hat2.out.mono ?_; rintro e w' ⟨rfl, hww⟩; have hww2 := hww.symm; clear hww; subst hww2)
                      go_round
                      case rel => exact ⟨i + 1, by go_num, by omega, Hn2⟩
                      case measure => simp [intOf]; omega
                  · have Hr2 : Hid (runs S.data.toList [cc] (i + U.data.toList.length) (t + 1)) := hd ((runs_snoc S.data.toList [cc] t _).2 ⟨HR.out, by rw [List.length_singleton, Nat.mul_one, ← Hsc.out]; exact hsc⟩)
                    have Hk2 : Hid (k + 1 = i + U.data.toList.length + (t + 1)) := hd (by have := Hk.out; omega)
                    clear Hsc
                    go_wp2_with (go_at_call 26; refine Hat2.out.mono ?_; rintro e w' ⟨rfl, hww⟩; have hww2 := hww.symm; clear hww; subst hww2)
                    go_round
                    case rel => exact ⟨k + 1, t + 1, best, by go_num, rfl, Hk2, by omega, by omega, by omega, Hr2, HB2⟩
                    case measure => simp [intOf]; omega
                · have k1 : ¬ (k : Int) < (S.size : Int) := by omega
                  have Hend : Hid (atB S.data.toList [cc] (i + U.data.toList.length + t) = false) := hd (by
                    rw [← Hk.out]
                    unfold atB
                    rw [HSl.out, List.length_singleton]
                    have : decide (k + 1 ≤ S.size) = false := by simp; omega
                    rw [this]
                    rfl)
                  by_cases h0 : 0 ≤ best
                  · have Hc := hd (Hyes.out best HB2.out Hend.out h0)
                    go_wp2_with (first | (go_at_call 26; refine Hat2.out.mono ?_; rintro e w' ⟨rfl, hww⟩; have hww2 := hww.symm; clear hww; subst hww2) | (go_at_call 24; refine Hc.out.mono ?_; rintro e w6 ⟨rfl, hb6⟩; have Hb6 := hd (Hb4.out.trans (hb6.mono Hb4.out.size)); clear hb6))
                    go_ret
                    exact ⟨rfl, Hb6.out⟩
                  · have Hn2 := hd (Hno.out best HB2.out Hend.out h0)
                    go_wp2_with (go_at_call 26; refine Hat2.out.mono ?_; rintro e w' ⟨rfl, hww⟩; have hww2 := hww.symm; clear hww; subst hww2)
                    go_round
                    case rel => exact ⟨i + 1, by go_num, by omega, Hn2⟩
                    case measure => simp [intOf]; omega
              · rw [hb2] at Hatb2
                have hkw : k + W.size ≤ S.size := by
                  have := atB_le Hatb2.out
                  rw [HWl.out, HSl.out, ← Hk.out] at this
                  exact this
                have HB2 : Hid (BestI S.data.toList W.data.toList (i + U.data.toList.length) (t + 1) ((k : Int) + (W.size : Int))) := hd (best_yes Hatb2.out _ (by rw [HWl.out, ← Hk.out, Int.natCast_add]))
                rw [hb2] at Hat2
                clear hb2 HB
                by_cases hk : k < S.size
                · have k0 : (0 : Int) ≤ (k : Int) := by omega
                  have k1 : (k : Int) < (S.size : Int) := by omega
                  have Hsc : Hid (((S.extract k (k + 1)).toList == C.toList) = atB S.data.toList [cc] (i + U.data.toList.length + t)) := hd (by
                    have h1 := sw_yes S C k
                    rw [hCs, HCl.out] at h1
                    rw [← Hk.out]
                    rw [h1]
                    unfold atB
                    rw [HSl.out, List.length_singleton]
                    have : decide (k + 1 ≤ S.size) = true := by simp; omega
                    rw [this]
                    rfl)
                  cases hsc : ((S.extract k (k + 1)).toList == C.toList)
                  · have Hend : Hid (atB S.data.toList [cc] (i + U.data.toList.length + t) = false) := hd (by rw [← Hsc.out]; exact hsc)
                    clear Hsc
                    by_cases h0 : 0 ≤ ((k : Int) + (W.size : Int))
                    · have Hc := hd (Hyes.out ((k : Int) + (W.size : Int)) HB2.out Hend.out h0)
                      go_wp2_with (first | (go_at_call 26; refine Hat2.out.mono ?_; rintro e w' ⟨rfl, hww⟩; have hww2 := hww.symm; clear hww; subst hww2) | (go_at_call 24; refine Hc.out.mono ?_; rintro e w6 ⟨rfl, hb6⟩; have Hb6 := hd (Hb4.out.trans (hb6.mono Hb4.out.size)); clear hb6))
                      go_ret
                      exact ⟨rfl, Hb6.out⟩
                    · omega
                  · have Hr2 : Hid (runs S.data.toList [cc] (i + U.data.toList.length) (t + 1)) := hd ((runs_snoc S.data.toList [cc] t _).2 ⟨HR.out, by rw [List.length_singleton, Nat.mul_one, ← Hsc.out]; exact hsc⟩)
                    have Hk2 : Hid (k + 1 = i + U.data.toList.length + (t + 1)) := hd (by have := Hk.out; omega)
                    clear Hsc
                    go_wp2_with (go_at_call 26; refine Hat2.out.mono ?_; rintro e w' ⟨rfl, hww⟩; have hww2 := hww.symm; clear hww; subst hww2)
                    go_round
                    case rel => exact ⟨k + 1, t + 1, ((k : Int) + (W.size : Int)), by go_num, rfl, Hk2, by omega, by omega, by omega, Hr2, HB2⟩
                    case measure => simp [intOf]; omega
                · have k1 : ¬ (k : Int) < (S.size : Int) := by omega
                  have Hend : Hid (atB S.data.toList [cc] (i + U.data.toList.length + t) = false) := hd (by
                    rw [← Hk.out]
                    unfold atB
                    rw [HSl.out, List.length_singleton]
                    have : decide (k + 1 ≤ S.size) = false := by simp; omega
                    rw [this]
                    rfl)
                  by_cases h0 : 0 ≤ ((k : Int) + (W.size : Int))
                  · have Hc := hd (Hyes.out ((k : Int) + (W.size : Int)) HB2.out Hend.out h0)
                    go_wp2_with (first | (go_at_call 26; refine Hat2.out.mono ?_; rintro e w' ⟨rfl, hww⟩; have hww2 := hww.symm; clear hww; subst hww2) | (go_at_call 24; refine Hc.out.mono ?_; rintro e w6 ⟨rfl, hb6⟩; have Hb6 := hd (Hb4.out.trans (hb6.mono Hb4.out.size)); clear hb6))
                    go_ret
                    exact ⟨rfl, Hb6.out⟩
                  · omega
        · have hltI : ¬ (i : Int) ≤ (S.size : Int) := by omega
          have Hc := hd (Hfound.out (-1) 0 (star_no S.data.toList U.data.toList W.data.toList cc _ Hrow.out (fun x hx => HN.out x (by rw [HSl.out] at hx; omega))))
          go_wp2_with fail
          refine Hc.out.mono ?_
          rintro e w6 ⟨rfl, hb6⟩
          have Hb6 := hd (Hb4.out.trans (hb6.mono Hb4.out.size))
          clear hb6
          go_wp2
          go_ret
          exact ⟨rfl, Hb6.out⟩
end Go.Proofs.YtldiemjlpnachaaDoor
