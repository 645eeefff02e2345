import Derived.Test.YtldiemjlpnachaaDoorCnt
namespace Go.Proofs.YtldiemjlpnachaaDoor
open Go.RowKit

theorem spec_abc (c : UInt8) : spec (abcC c) = false := by
  unfold abcC
  split
  · decide
  · split <;> decide
theorem not10_abc (c : UInt8) : abcC c ≠ 10 := by
  unfold abcC
  split
  · decide
  · split <;> decide
/-- what Find answers, where a run is found -/
theorem cnt_yes (s w : List UInt8) (its : List It) (m n : Int) (hits : its = [itRep m n (itGrp 1 (wordI w))]) (hw : 0 < w.length) (most i k mm : Nat) (hm : m = mm) (hmost : (n = -1 ∧ s.length ≤ most) ∨ (n = most ∧ mm ≤ most)) (hi : i ≤ s.length) (hk : mm ≤ k) (hkm : k ≤ most) (hr : runs s w i k) (hend : k = most ∨ atB s w (i + k * w.length) = false) (hno : ∀ x, x < i → ¬ runs s w x mm) :
    ∀ fd a b, FindRes s.length (fun x y => MtRow s (its.map (·.3)) x y) 0 fd a b → if (i : Int) < 0 then fd = false ∧ a = 0 ∧ b = 0 else fd = true ∧ (a : Int) = i ∧ (b : Int) = ((i + k * w.length : Nat) : Int) := by
  intro fd a b h
  subst hits hm
  have hb := h.1 ⟨Int.le_refl _, by omega⟩
  rw [if_neg (by omega)]
  have hbest : Best s.length (fun x y => MtRow s ([itRep mm n (itGrp 1 (wordI w))].map (·.3)) x y) (0 : Int).toNat true i (i + k * w.length) := by
    refine ⟨fun _ => ⟨by simp, hi, (cnt_row s w mm n i _ hi).2 ⟨k, by simpa using hk, ?_, hr, rfl⟩, fun x y _ g2 g3 => ?_⟩, fun h => by cases h⟩
    · rcases hmost with ⟨h1, _⟩ | ⟨rfl, h2⟩
      · exact .inl h1
      · exact .inr (by simp; omega)
    · obtain ⟨k', g4, g5, g6, rfl⟩ := (cnt_row s w mm n x y g2).1 g3
      simp only [Int.toNat_natCast] at g4 g5
      have g7 : ¬ x < i := fun hlt => hno x hlt (runs_mono s w k' mm x g4 g6)
      refine ⟨by omega, fun e => ?_⟩
      subst e
      have hkk : k' ≤ k := by
        rcases Nat.lt_or_ge k k' with hlt | hge
        · exfalso
          have r1 := ((runs_snoc s w k x).1 (runs_mono s w k' (k + 1) x (by omega) g6)).2
          rcases hend with h1 | h1
          · rcases hmost with ⟨_, h2⟩ | ⟨rfl, h2⟩
            · have r2 := runs_le s w k' x g2 g6
              have r3 : k' ≤ k' * w.length := Nat.le_mul_of_pos_right _ hw
              omega
            · rcases g5 with g5 | g5 <;> omega
          · rw [h1] at r1; cases r1
        · exact hge
      have := Nat.mul_le_mul_right w.length hkk
      omega
  obtain ⟨e1, e2, e3⟩ := hb.uniq hbest
  exact ⟨e1, by omega, by omega⟩
theorem cnt_not (s w : List UInt8) (i k mm most : Nat) (hk : k < mm) (hmm : mm ≤ most) (hend : k = most ∨ atB s w (i + k * w.length) = false) : ¬ runs s w i mm := fun h => by
  have := ((runs_snoc s w k i).1 (runs_mono s w mm (k + 1) i (by omega) h)).2
  rcases hend with h1 | h1
  · omega
  · rw [h1] at this; cases this
theorem cnt_no (s w : List UInt8) (its : List It) (m n : Int) (hits : its = [itRep m n (itGrp 1 (wordI w))]) (mm : Nat) (hm : m = mm) (hno : ∀ x, x ≤ s.length → ¬ runs s w x mm) :
    ∀ fd a b, FindRes s.length (fun x y => MtRow s (its.map (·.3)) x y) 0 fd a b → if (-1 : Int) < 0 then fd = false ∧ a = 0 ∧ b = 0 else fd = true ∧ (a : Int) = -1 ∧ (b : Int) = 0 := by
  intro fd a b h
  subst hits hm
  have hb := h.1 ⟨Int.le_refl _, by omega⟩
  rw [if_pos (by omega)]
  have hbest : Best s.length (fun x y => MtRow s ([itRep mm n (itGrp 1 (wordI w))].map (·.3)) x y) (0 : Int).toNat false 0 0 := ⟨(fun h => by cases h), fun _ => ⟨rfl, rfl, fun x y _ g2 g3 => by
    obtain ⟨k', g4, _, g6, _⟩ := (cnt_row s w mm n x y g2).1 g3
    simp only [Int.toNat_natCast] at g4
    exact hno x g2 (runs_mono s w k' mm x g4 g6)⟩⟩
  exact hb.uniq hbest
theorem u8_of (c : UInt8) (m : Nat) (hm : m < 6) (hc : c.toNat = 48 + m) : c = UInt8.ofNat (48 + m) := by
  apply UInt8.toNat_inj.1
  rw [hc, UInt8.toNat_ofNat', Nat.mod_eq_of_lt (by omega)]
theorem ivl_open (c : UInt8) (m : Nat) (hm : m < 5) (hc : c.toNat = 48 + m) : ivl [c, 44, 92, 125] 0 = some ((m : Int), -1, 4) := by
  rw [u8_of c m (by omega) hc]
  rcases (by omega : m = 0 ∨ m = 1 ∨ m = 2 ∨ m = 3 ∨ m = 4) with rfl | rfl | rfl | rfl | rfl <;> rfl
theorem ivl_two (c d : UInt8) (m n : Nat) (hm : m < 5) (hn : n < 6) (hmn : m ≤ n) (hc : c.toNat = 48 + m) (hd : d.toNat = 48 + n) : ivl [c, 44, d, 92, 125] 0 = some ((m : Int), (n : Int), 5) := by
  rw [u8_of c m (by omega) hc, u8_of d n hn hd]
  rcases (by omega : m = 0 ∨ m = 1 ∨ m = 2 ∨ m = 3 ∨ m = 4) with rfl | rfl | rfl | rfl | rfl <;> rcases (by omega : n = 0 ∨ n = 1 ∨ n = 2 ∨ n = 3 ∨ n = 4 ∨ n = 5) with rfl | rfl | rfl | rfl | rfl | rfl <;> first | rfl | omega
theorem str_of1 (w : World) (v : Int) (c : UInt8) (hv : v = c.toNat) (g : Nat) (hg : g = w.heap.size) :
    (convert 54 9 (.slice (some ⟨g, 0, none⟩) 1 1)).run Tryd.prog (w.alloc (.cells #[.int .u8 v] 5)) = .ok (.string ⟨#[c]⟩) (w.alloc (.cells #[.int .u8 v] 5)) := by
  subst hg hv
  have := run_convert_bytes_back (P := Tryd.prog) (w.alloc (.cells #[.int .u8 c.toNat] 5)) 54 9 5 ⟨w.heap.size, 0, none⟩ 1 [c] Tryd.underlying54 Tryd.underlying5 Tryd.underlying9 (fun j hj => by
    have hj0 : j = 0 := by simpa using hj
    subst hj0
    have e : (⟨w.heap.size, 0, none⟩ : Addr).add 0 = ⟨w.heap.size, 0, none⟩ := by unfold Addr.add; split <;> simp_all
    rw [e]
    simp)
  exact this

set_option maxHeartbeats 3200000 in
set_option maxRecDepth 100000 in
theorem counted_any (u s : ByteArray) (m n : Int) (w : World) (hn : NamesIn w) (hu : u.size ≤ 140737488351232) (hs : s.size ≤ 140737488351232) (hm0 : -9223372036854775808 ≤ m ∧ m ≤ 9223372036854775807) (hn0 : -9223372036854775808 ≤ n ∧ n ≤ 9223372036854775807) :
    Calls Tryd.prog 12 #[.string u, .int .i64 m, .int .i64 n, .string s] w fun e w' => e = .returned (.bool true) ∧ Below w.heap.size w w' := by
  have Hn := hd hn
  clear hn
  go_enter Tryd.func12, Tryd.ntmps12
  go_wp2_with fail
  refine (abc_any u w (by omega)).mono ?_
  rintro e w1 ⟨⟨U, rfl, hU⟩, hb1⟩
  have Hb1 := hd hb1
  clear hb1
  go_wp2_with fail
  refine (abc_any s w1 (by omega)).mono ?_
  rintro e w2 ⟨⟨S, rfl, hS⟩, hb2⟩
  have Hb2 := hd (Hb1.out.trans (hb2.mono Hb1.out.size))
  have HU := hd hU
  have HS := hd hS
  have hUs : U.size ≤ 140737488351232 := by have := congrArg List.length hU; simp at this; omega
  have hSs : S.size ≤ 140737488351232 := by have := congrArg List.length hS; simp at this; omega
  clear hb2 hU hS hu hs
  go_wp2_with fail
  refine (pick_any _ _ _ hm0.1 hm0.2 (by decide) (by decide)).mono ?_
  rintro e w3 ⟨⟨mm, rfl, hmm⟩, rfl⟩
  go_wp2_with fail
  refine (pick_any _ _ _ hn0.1 hn0.2 (by decide) (by decide)).mono ?_
  rintro e w3 ⟨⟨nn, rfl, hnn⟩, rfl⟩
  clear Hb1
  by_cases hU0 : U.size = 0
  · have hUe : U.toList.isEmpty = true := by
      have : U = ⟨#[]⟩ := by
        apply ByteArray.ext
        apply Array.eq_empty_of_size_eq_zero
        exact hU0
      rw [this, ByteArray.toList_eq]; rfl
    go_wp2
    go_ret
    exact ⟨rfl, Hb2.out⟩
  · have hUe : U.toList.isEmpty = false := by
      rw [ByteArray.toList_eq]
      cases h : U.data.toList with
      | nil => have h2 := congrArg List.length h; rw [len_data] at h2; exact absurd h2 hU0
      | cons _ _ => rfl
    by_cases hU9 : 9 < U.size
    · have hU9I : (9 : Int) < (U.size : Int) := by omega
      go_wp2
      go_ret
      exact ⟨rfl, Hb2.out⟩
    · have hU9I : ¬ (9 : Int) < (U.size : Int) := by omega
      obtain ⟨cm, hcmv⟩ : ∃ c : UInt8, c.toNat = 48 + mm := ⟨UInt8.ofNat (48 + mm), by rw [UInt8.toNat_ofNat', Nat.mod_eq_of_lt (by omega)]⟩
      obtain ⟨cn, hcnv⟩ : ∃ c : UInt8, c.toNat = 48 + nn := ⟨UInt8.ofNat (48 + nn), by rw [UInt8.toNat_ofNat', Nat.mod_eq_of_lt (by omega)]⟩
      have hcm := fun w0 => str_of1 w0 (48 + (mm : Int)) cm (by omega) w0.heap.size rfl
      have hcn := str_of1 (w3.alloc (.cells #[.int .u8 (48 + (mm : Int))] 5)) (48 + (nn : Int)) cn (by omega) (w3.heap.size + 1) (by show _ = (w3.heap.push _).size; rw [Array.size_push])
      have HUw : Hid (∀ c ∈ U.data.toList, spec c = false) := hd (fun c hc => by
        rw [HU.out, List.mem_map] at hc
        obtain ⟨d, _, rfl⟩ := hc
        exact spec_abc d)
      have HUl := hd (len_data U)
      have HSl := hd (len_data S)
      by_cases hlt : (nn : Int) < (mm : Int)
      · have Hiv := hd (ivl_open cm mm (by omega) hcmv)
        clear hcmv hcnv
        go_wp2_with fail
        have HP : Hid (({ data := #[92, 40] } ++ U ++ { data := #[92, 41, 92, 123] } ++ { data := #[cm] } ++ { data := #[44, 92, 125] } : ByteArray).data.toList = [92, 40] ++ (U.data.toList ++ ([92, 41, 92, 123] ++ [cm, 44, 92, 125]))) := hd (by
          simp only [app_list]
          simp)
        have HPs : Hid (({ data := #[92, 40] } ++ U ++ { data := #[92, 41, 92, 123] } ++ { data := #[cm] } ++ { data := #[44, 92, 125] } : ByteArray).size ≤ 60) := hd (by
          rw [← len_data, HP.out]
          simp only [List.length_append, HUl.out, List.length_cons, List.length_nil]
          omega)
        have Hfb : Hid (Below w.heap.size w (w3.alloc (.cells #[.int .u8 (48 + (mm : Int))] 5))) := hd (Hb2.out.alloc Hb2.out.size _)
        generalize { data := #[92, 40] } ++ U ++ { data := #[92, 41, 92, 123] } ++ { data := #[cm] } ++ { data := #[44, 92, 125] } = P at HP HPs ⊢
        generalize w3.alloc (.cells #[.int .u8 (48 + (mm : Int))] 5) = wf at Hfb ⊢
        have Hnf := hd (Hn.out.below Hfb.out Hn.out.lt)
        clear hcm hcn Hb2 HU HS
        refine (fits_any P S _ (by have := HPs.out; omega) (by omega)).mono ?_
        rintro e w5 ⟨⟨b, rfl, hb⟩, rfl⟩
        cases b
        · go_wp2
          go_ret
          exact ⟨rfl, Hfb.out⟩
        · obtain ⟨hlf, _, hs1024⟩ := hb rfl
          rw [HP.out] at hlf
          have Hpar := hd (cnt_parse U.data.toList [cm, 44, 92, 125] mm (-1) HUw.out (by rw [HUl.out]; omega) Hiv.out (by simp) ⟨by omega, by omega⟩ ⟨by omega, by omega⟩ hlf)
          have Hfound : Hid (∀ i j : Int, (∀ fd a b, FindRes S.data.toList.length (fun x y => MtRow S.data.toList ((itsT ([92, 40] ++ (U.data.toList ++ ([92, 41, 92, 123] ++ [cm, 44, 92, 125])))).map (·.3)) x y) 0 fd a b → if i < 0 then fd = false ∧ a = 0 ∧ b = 0 else fd = true ∧ (a : Int) = i ∧ (b : Int) = j) → Calls Tryd.prog 24 #[.string P, .string S, .int .i64 0, .int .i64 i, .int .i64 j] w5 fun e w' => e = .returned (.bool true) ∧ Below w5.heap.size w5 w') := hd (fun i j hx =>
            found_at P S _ S.data.toList 0 i j w5 HP.out rfl Hnf.out (by rw [← HP.out, len_data]; unfold maxLen; have := HPs.out; omega) (by rw [HSl.out]; omega) Hpar.out.1 Hpar.out.2.1 hx)
          clear hlf hb hSs
          go_wp2
          go_loop [11, 12] (fun iv kv => ∃ i : Nat, iv = .int .i64 i ∧ i ≤ S.size + 1 ∧ Hid (∀ x, x < i → ¬ runs S.data.toList U.data.toList x mm)) (fun iv _ => (S.size + 1) - (intOf iv).toNat)
          case atStart => exact ⟨0, rfl, Nat.zero_le _, hd (fun x hx => by omega)⟩
          case round =>
            obtain ⟨i, rfl, hi, HN⟩ := hrel
            by_cases hlt : i ≤ S.size
            · have hltI : (i : Int) ≤ (S.size : Int) := by omega
              go_wp2
              go_loop [12] (fun kv => ∃ k : Nat, kv = .int .i64 k ∧ k ≤ 1024 ∧ Hid (runs S.data.toList U.data.toList i k)) (fun kv => 1024 - (intOf kv).toNat)
              case atStart => exact ⟨0, rfl, Nat.zero_le _, hd trivial⟩
              case round =>
                obtain ⟨k, rfl, hk, HR⟩ := hrel
                have hr := runs_le _ _ k i (by rw [HSl.out]; exact hlt) HR.out
                obtain ⟨q, hqe⟩ : ∃ q : Nat, q = k * U.size := ⟨_, rfl⟩
                rw [HUl.out, HSl.out, ← hqe] at hr
                have hqI : (k : Int) * (U.size : Int) = (q : Int) := by rw [hqe]; exact (Int.natCast_mul k U.size).symm
                have Hq : Hid (k * U.data.toList.length = q) := hd (by rw [HUl.out, hqe])
                clear hqe
                have Hat : Hid (Calls Tryd.prog 26 #[.string S, .int .i64 ((i : Int) + (q : Int)), .string U] w5 fun e w' => e = .returned (.bool (decide (i + q + U.size ≤ S.size) && sw S.data.toList (i + q) U.data.toList)) ∧ w' = w5) := hd (by
                  have := at_any S U (i + q) w5 (by omega) (by omega) (by omega)
                  rw [Int.natCast_add] at this
                  exact this)
                have Hatb : Hid (atB S.data.toList U.data.toList (i + k * U.data.toList.length) = (decide (i + q + U.size ≤ S.size) && sw S.data.toList (i + q) U.data.toList)) := hd (by rw [Hq.out]; unfold atB; rw [HUl.out, HSl.out])
                have Hyes : Hid (mm ≤ k → (k = 1024 ∨ atB S.data.toList U.data.toList (i + k * U.data.toList.length) = false) → Calls Tryd.prog 24 #[.string P, .string S, .int .i64 0, .int .i64 (i : Int), .int .i64 ((i : Int) + (q : Int))] w5 fun e w' => e = .returned (.bool true) ∧ Below w5.heap.size w5 w') := hd (fun hmk hend => by
                  have := Hfound.out i _ (cnt_yes S.data.toList U.data.toList _ _ _ Hpar.out.2.2 (by rw [HUl.out]; omega) 1024 i k mm rfl (.inl ⟨rfl, by rw [HSl.out]; exact hs1024⟩) (by rw [HSl.out]; exact hlt) hmk hk HR.out hend HN.out)
                  rw [Hq.out, Int.natCast_add] at this
                  exact this)
                have Hno : Hid (¬ mm ≤ k → (k = 1024 ∨ atB S.data.toList U.data.toList (i + k * U.data.toList.length) = false) → ∀ x, x < i + 1 → ¬ runs S.data.toList U.data.toList x mm) := hd (fun hmk hend x hx => by
                  rcases Nat.lt_or_ge x i with h | h
                  · exact HN.out x h
                  · have e : x = i := by omega
                    subst e
                    exact cnt_not _ _ _ k mm 1024 (by omega) (by omega) hend)
                by_cases hkm : k < 1024
                · have hkmI : (k : Int) < 1024 := by omega
                  cases hb : (decide (i + q + U.size ≤ S.size) && sw S.data.toList (i + q) U.data.toList)
                  · rw [hb] at Hat Hatb
                    clear hb
                    by_cases hmk : mm ≤ k
                    · have hmkI : (mm : Int) ≤ (k : Int) := by omega
                      have Hc := hd (Hyes.out hmk (.inr Hatb.out))
                      go_wp2_with (first | (go_at_call 26; refine Hat.out.mono ?_; rintro e w' ⟨rfl, rfl⟩) | (go_at_call 24; refine Hc.out.mono ?_; rintro e w4 ⟨rfl, hb4⟩; have Hb4 := hd (Hfb.out.trans (hb4.mono Hfb.out.size)); clear hb4))
                      go_ret
                      exact ⟨rfl, Hb4.out⟩
                    · have hmkI : ¬ (mm : Int) ≤ (k : Int) := by omega
                      have Hn2 := hd (Hno.out hmk (.inr Hatb.out))
                      go_wp2_with (go_at_call 26; refine Hat.out.mono ?_; rintro e w' ⟨rfl, rfl⟩)
                      go_round
                      case rel => exact ⟨i + 1, by go_num, by omega, Hn2⟩
                      case measure => simp [intOf]; omega
                  · rw [hb] at Hat Hatb
                    clear hb
                    have Hr2 := hd ((runs_snoc S.data.toList U.data.toList k i).2 ⟨HR.out, Hatb.out⟩)
                    go_wp2_with (go_at_call 26; refine Hat.out.mono ?_; rintro e w' ⟨rfl, rfl⟩)
                    go_round
                    case rel => exact ⟨k + 1, by go_num, by omega, Hr2⟩
                    case measure => simp [intOf]; omega
                · have hkmI : ¬ (k : Int) < 1024 := by omega
                  have hke : k = 1024 := by omega
                  by_cases hmk : mm ≤ k
                  · have hmkI : (mm : Int) ≤ (k : Int) := by omega
                    have Hc := hd (Hyes.out hmk (.inl hke))
                    clear hke
                    go_wp2_with (go_at_call 24; refine Hc.out.mono ?_; rintro e w4 ⟨rfl, hb4⟩; have Hb4 := hd (Hfb.out.trans (hb4.mono Hfb.out.size)); clear hb4)
                    go_ret
                    exact ⟨rfl, Hb4.out⟩
                  · omega
            · have hltI : ¬ (i : Int) ≤ (S.size : Int) := by omega
              have Hc := hd (Hfound.out (-1) 0 (cnt_no S.data.toList U.data.toList _ _ _ Hpar.out.2.2 mm rfl (fun x hx => HN.out x (by rw [HSl.out] at hx; omega))))
              go_wp2_with fail
              refine Hc.out.mono ?_
              rintro e w4 ⟨rfl, hb4⟩
              have Hb4 := hd (Hfb.out.trans (hb4.mono Hfb.out.size))
              clear hb4
              go_wp2
              go_ret
              exact ⟨rfl, Hb4.out⟩
      · have Hiv := hd (ivl_two cm cn mm nn (by omega) (by omega) (by omega) hcmv hcnv)
        clear hcmv hcnv
        go_wp2_with fail
        have HP : Hid (({ data := #[92, 40] } ++ U ++ { data := #[92, 41, 92, 123] } ++ { data := #[cm] } ++ ({ data := #[44] } ++ { data := #[cn] } ++ { data := #[92, 125] }) : ByteArray).data.toList = [92, 40] ++ (U.data.toList ++ ([92, 41, 92, 123] ++ [cm, 44, cn, 92, 125]))) := hd (by
          simp only [app_list]
          simp)
        have HPs : Hid (({ data := #[92, 40] } ++ U ++ { data := #[92, 41, 92, 123] } ++ { data := #[cm] } ++ ({ data := #[44] } ++ { data := #[cn] } ++ { data := #[92, 125] }) : ByteArray).size ≤ 60) := hd (by
          rw [← len_data, HP.out]
          simp only [List.length_append, HUl.out, List.length_cons, List.length_nil]
          omega)
        have Hfb : Hid (Below w.heap.size w ((w3.alloc (.cells #[.int .u8 (48 + (mm : Int))] 5)).alloc (.cells #[.int .u8 (48 + (nn : Int))] 5))) := hd ((Hb2.out.alloc Hb2.out.size _).alloc (Hb2.out.alloc Hb2.out.size _).size _)
        generalize { data := #[92, 40] } ++ U ++ { data := #[92, 41, 92, 123] } ++ { data := #[cm] } ++ ({ data := #[44] } ++ { data := #[cn] } ++ { data := #[92, 125] }) = P at HP HPs ⊢
        generalize (w3.alloc (.cells #[.int .u8 (48 + (mm : Int))] 5)).alloc (.cells #[.int .u8 (48 + (nn : Int))] 5) = wf at Hfb ⊢
        have Hnf := hd (Hn.out.below Hfb.out Hn.out.lt)
        clear hcm hcn Hb2 HU HS
        refine (fits_any P S _ (by have := HPs.out; omega) (by omega)).mono ?_
        rintro e w5 ⟨⟨b, rfl, hb⟩, rfl⟩
        cases b
        · go_wp2
          go_ret
          exact ⟨rfl, Hfb.out⟩
        · obtain ⟨hlf, _, hs1024⟩ := hb rfl
          rw [HP.out] at hlf
          have Hpar := hd (cnt_parse U.data.toList [cm, 44, cn, 92, 125] mm (nn) HUw.out (by rw [HUl.out]; omega) Hiv.out (by simp) ⟨by omega, by omega⟩ ⟨by omega, by omega⟩ hlf)
          have Hfound : Hid (∀ i j : Int, (∀ fd a b, FindRes S.data.toList.length (fun x y => MtRow S.data.toList ((itsT ([92, 40] ++ (U.data.toList ++ ([92, 41, 92, 123] ++ [cm, 44, cn, 92, 125])))).map (·.3)) x y) 0 fd a b → if i < 0 then fd = false ∧ a = 0 ∧ b = 0 else fd = true ∧ (a : Int) = i ∧ (b : Int) = j) → Calls Tryd.prog 24 #[.string P, .string S, .int .i64 0, .int .i64 i, .int .i64 j] w5 fun e w' => e = .returned (.bool true) ∧ Below w5.heap.size w5 w') := hd (fun i j hx =>
            found_at P S _ S.data.toList 0 i j w5 HP.out rfl Hnf.out (by rw [← HP.out, len_data]; unfold maxLen; have := HPs.out; omega) (by rw [HSl.out]; omega) Hpar.out.1 Hpar.out.2.1 hx)
          clear hlf hb hSs
          go_wp2
          go_loop [11, 12] (fun iv kv => ∃ i : Nat, iv = .int .i64 i ∧ i ≤ S.size + 1 ∧ Hid (∀ x, x < i → ¬ runs S.data.toList U.data.toList x mm)) (fun iv _ => (S.size + 1) - (intOf iv).toNat)
          case atStart => exact ⟨0, rfl, Nat.zero_le _, hd (fun x hx => by omega)⟩
          case round =>
            obtain ⟨i, rfl, hi, HN⟩ := hrel
            by_cases hlt : i ≤ S.size
            · have hltI : (i : Int) ≤ (S.size : Int) := by omega
              go_wp2
              go_loop [12] (fun kv => ∃ k : Nat, kv = .int .i64 k ∧ k ≤ nn ∧ Hid (runs S.data.toList U.data.toList i k)) (fun kv => nn - (intOf kv).toNat)
              case atStart => exact ⟨0, rfl, Nat.zero_le _, hd trivial⟩
              case round =>
                obtain ⟨k, rfl, hk, HR⟩ := hrel
                have hr := runs_le _ _ k i (by rw [HSl.out]; exact hlt) HR.out
                obtain ⟨q, hqe⟩ : ∃ q : Nat, q = k * U.size := ⟨_, rfl⟩
                rw [HUl.out, HSl.out, ← hqe] at hr
                have hqI : (k : Int) * (U.size : Int) = (q : Int) := by rw [hqe]; exact (Int.natCast_mul k U.size).symm
                have Hq : Hid (k * U.data.toList.length = q) := hd (by rw [HUl.out, hqe])
                clear hqe
                have Hat : Hid (Calls Tryd.prog 26 #[.string S, .int .i64 ((i : Int) + (q : Int)), .string U] w5 fun e w' => e = .returned (.bool (decide (i + q + U.size ≤ S.size) && sw S.data.toList (i + q) U.data.toList)) ∧ w' = w5) := hd (by
                  have := at_any S U (i + q) w5 (by omega) (by omega) (by omega)
                  rw [Int.natCast_add] at this
                  exact this)
                have Hatb : Hid (atB S.data.toList U.data.toList (i + k * U.data.toList.length) = (decide (i + q + U.size ≤ S.size) && sw S.data.toList (i + q) U.data.toList)) := hd (by rw [Hq.out]; unfold atB; rw [HUl.out, HSl.out])
                have Hyes : Hid (mm ≤ k → (k = nn ∨ atB S.data.toList U.data.toList (i + k * U.data.toList.length) = false) → Calls Tryd.prog 24 #[.string P, .string S, .int .i64 0, .int .i64 (i : Int), .int .i64 ((i : Int) + (q : Int))] w5 fun e w' => e = .returned (.bool true) ∧ Below w5.heap.size w5 w') := hd (fun hmk hend => by
                  have := Hfound.out i _ (cnt_yes S.data.toList U.data.toList _ _ _ Hpar.out.2.2 (by rw [HUl.out]; omega) nn i k mm rfl (.inr ⟨rfl, by omega⟩) (by rw [HSl.out]; exact hlt) hmk hk HR.out hend HN.out)
                  rw [Hq.out, Int.natCast_add] at this
                  exact this)
                have Hno : Hid (¬ mm ≤ k → (k = nn ∨ atB S.data.toList U.data.toList (i + k * U.data.toList.length) = false) → ∀ x, x < i + 1 → ¬ runs S.data.toList U.data.toList x mm) := hd (fun hmk hend x hx => by
                  rcases Nat.lt_or_ge x i with h | h
                  · exact HN.out x h
                  · have e : x = i := by omega
                    subst e
                    exact cnt_not _ _ _ k mm nn (by omega) (by omega) hend)
                by_cases hkm : k < nn
                · have hkmI : (k : Int) < (nn : Int) := by omega
                  cases hb : (decide (i + q + U.size ≤ S.size) && sw S.data.toList (i + q) U.data.toList)
                  · rw [hb] at Hat Hatb
                    clear hb
                    by_cases hmk : mm ≤ k
                    · have hmkI : (mm : Int) ≤ (k : Int) := by omega
                      have Hc := hd (Hyes.out hmk (.inr Hatb.out))
                      go_wp2_with (first | (go_at_call 26; refine Hat.out.mono ?_; rintro e w' ⟨rfl, rfl⟩) | (go_at_call 24; refine Hc.out.mono ?_; rintro e w4 ⟨rfl, hb4⟩; have Hb4 := hd (Hfb.out.trans (hb4.mono Hfb.out.size)); clear hb4))
                      go_ret
                      exact ⟨rfl, Hb4.out⟩
                    · have hmkI : ¬ (mm : Int) ≤ (k : Int) := by omega
                      have Hn2 := hd (Hno.out hmk (.inr Hatb.out))
                      go_wp2_with (go_at_call 26; refine Hat.out.mono ?_; rintro e w' ⟨rfl, rfl⟩)
                      go_round
                      case rel => exact ⟨i + 1, by go_num, by omega, Hn2⟩
                      case measure => simp [intOf]; omega
                  · rw [hb] at Hat Hatb
                    clear hb
                    have Hr2 := hd ((runs_snoc S.data.toList U.data.toList k i).2 ⟨HR.out, Hatb.out⟩)
                    go_wp2_with (go_at_call 26; refine Hat.out.mono ?_; rintro e w' ⟨rfl, rfl⟩)
                    go_round
                    case rel => exact ⟨k + 1, by go_num, by omega, Hr2⟩
                    case measure => simp [intOf]; omega
                · have hkmI : ¬ (k : Int) < (nn : Int) := by omega
                  have hke : k = nn := by omega
                  by_cases hmk : mm ≤ k
                  · have hmkI : (mm : Int) ≤ (k : Int) := by omega
                    have Hc := hd (Hyes.out hmk (.inl hke))
                    clear hke
                    go_wp2_with (go_at_call 24; refine Hc.out.mono ?_; rintro e w4 ⟨rfl, hb4⟩; have Hb4 := hd (Hfb.out.trans (hb4.mono Hfb.out.size)); clear hb4)
                    go_ret
                    exact ⟨rfl, Hb4.out⟩
                  · omega
            · have hltI : ¬ (i : Int) ≤ (S.size : Int) := by omega
              have Hc := hd (Hfound.out (-1) 0 (cnt_no S.data.toList U.data.toList _ _ _ Hpar.out.2.2 mm rfl (fun x hx => HN.out x (by rw [HSl.out] at hx; omega))))
              go_wp2_with fail
              refine Hc.out.mono ?_
              rintro e w4 ⟨rfl, hb4⟩
              have Hb4 := hd (Hfb.out.trans (hb4.mono Hfb.out.size))
              clear hb4
              go_wp2
              go_ret
              exact ⟨rfl, Hb4.out⟩
end Go.Proofs.YtldiemjlpnachaaDoor
