import Derived.Test.YtldiemjlpnachaaDoorLitW
namespace Go.Proofs.YtldiemjlpnachaaDoor
open Go.RowKit

theorem atB_iff {s t : List UInt8} {i : Nat} (hi : i ≤ s.length) : atB s t i = true ↔ stands s i t := by
  unfold atB stands sw
  rw [Bool.and_eq_true, decide_eq_true_eq, beq_iff_eq]
  constructor
  · exact fun h => h.2
  · intro h
    refine ⟨?_, h⟩
    have := congrArg List.length h
    simp at this
    omega
/-- what Find answers of a word -/
theorem word_found (u s : List UInt8) (its : List It) (hits : its = wordI u) (fr i : Int) (hr : (0 ≤ fr ∧ fr ≤ s.length) → FirstR s u fr i) (ho : ¬ (0 ≤ fr ∧ fr ≤ s.length) → i = -1) (j : Int) (hj : j = i + u.length) :
    ∀ fd a b, FindRes s.length (fun x y => MtRow s (its.map (·.3)) x y) fr fd a b → if i < 0 then fd = false ∧ a = 0 ∧ b = 0 else fd = true ∧ (a : Int) = i ∧ (b : Int) = j := by
  intro fd a b h
  subst hits
  by_cases hin : 0 ≤ fr ∧ fr ≤ s.length
  · have hb := h.1 hin
    rcases hr hin with ⟨rfl, hno⟩ | ⟨k, rfl, h1, h2, h3, h4⟩
    · rw [if_pos (by omega)]
      have : Best s.length (fun x y => MtRow s ((wordI u).map (·.3)) x y) fr.toNat false 0 0 := ⟨(fun h => by cases h), fun _ => ⟨rfl, rfl, fun x y g1 g2 g3 => by
        have g4 := (atB_iff g2).2 ((word_row s u x y g2).1 g3).1
        rw [hno x (by omega) g2] at g4
        cases g4⟩⟩
      obtain ⟨e1, e2, e3⟩ := hb.uniq this
      exact ⟨e1, e2, e3⟩
    · rw [if_neg (by omega)]
      have : Best s.length (fun x y => MtRow s ((wordI u).map (·.3)) x y) fr.toNat true k (k + u.length) := ⟨fun _ => ⟨by omega, h2, (word_row s u k _ h2).2 ⟨(atB_iff h2).1 h3, rfl⟩, fun x y g1 g2 g3 => by
        obtain ⟨g4, rfl⟩ := (word_row s u x y g2).1 g3
        have g5 := (atB_iff g2).2 g4
        rcases Nat.lt_or_ge x k with hlt | hge
        · rw [h4 x (by omega) hlt] at g5; cases g5
        · exact ⟨hge, fun e => by omega⟩⟩, fun h => by cases h⟩
      obtain ⟨e1, e2, e3⟩ := hb.uniq this
      exact ⟨e1, by omega, by omega⟩
  · obtain ⟨e1, e2, e3⟩ := h.2 hin
    have := ho hin
    rw [if_pos (by omega)]
    exact ⟨e1, e2, e3⟩

set_option maxHeartbeats 1600000 in
theorem literal_any (u s : ByteArray) (fr : Int) (w : World) (hn : NamesIn w) (hu : u.size ≤ 140737488351232) (hs : s.size ≤ 140737488351232) (hf0 : -9223372036854775808 ≤ fr) (hf1 : fr ≤ 9223372036854775807) :
    Calls Tryd.prog 9 #[.string u, .string s, .int .i64 fr] w fun e w' => e = .returned (.bool true) ∧ Below w.heap.size w w' := by
  have Hn := hd hn
  have Hpl := hd (plain_any u w (by omega))
  clear hn
  go_enter Tryd.func9, Tryd.ntmps9
  go_wp2_with fail
  refine Hpl.out.mono ?_
  rintro e w1 ⟨⟨p, rfl, hp⟩, rfl⟩
  have hps : p.size ≤ 281474976702464 := by
    have h1 := (plainL_len u.data.toList).2
    rw [← hp, len_data, len_data] at h1
    omega
  have Hfi := hd (fits_any p s w1 (by omega) (by omega))
  have Hp := hd hp
  clear hp
  go_wp2_with fail
  refine Hfi.out.mono ?_
  rintro e w2 ⟨⟨b, rfl, hb⟩, rfl⟩
  cases b
  · go_wp2
    go_ret
    exact ⟨rfl, Below.refl _ _⟩
  · obtain ⟨hlf, hp60, hs1024⟩ := hb rfl
    have hpl : (plainL u.data.toList).length ≤ 60 := by rw [← Hp.out, len_data]; exact hp60
    have Hpar := hd (word_parse u.data.toList hpl (by rw [← Hp.out]; exact hlf))
    have hul : u.size ≤ 60 := by
      have h1 := (plainL_len u.data.toList).1
      rw [len_data] at h1
      omega
    have Hft := hd (first_any s u fr w2 (by omega) (by omega) hf0 hf1)
    clear hlf hb hpl
    go_wp2_with fail
    refine Hft.out.mono ?_
    rintro e w3 ⟨⟨r, rfl, hr⟩, rfl⟩
    have Hfound : Hid (∀ (i j : Int), ((0 ≤ fr ∧ fr ≤ s.data.toList.length) → FirstR s.data.toList u.data.toList fr i) → (¬ (0 ≤ fr ∧ fr ≤ s.data.toList.length) → i = -1) → j = i + u.size → Calls Tryd.prog 24 #[.string p, .string s, .int .i64 fr, .int .i64 i, .int .i64 j] w3 fun e w' => e = .returned (.bool true) ∧ Below w3.heap.size w3 w') := by
      refine hd (fun i j h1 h2 h3 => ?_)
      refine found_any p s fr i j w3 Hn.out (by unfold maxLen; omega) (by omega) (by rw [Hp.out]; exact Hpar.out.1) (by rw [Hp.out]; exact Hpar.out.2.1) ?_
      exact word_found u.data.toList s.data.toList _ (by rw [Hp.out]; exact Hpar.out.2.2) fr i h1 h2 j (by rw [len_data]; exact h3)
    have hrb : -1 ≤ r ∧ r ≤ 1024 := by
      rcases hr with ⟨rfl, _⟩ | ⟨k, rfl, _, h2, _⟩
      · omega
      · rw [len_data] at h2; omega
    have Hr := hd hr
    clear hr
    by_cases hin : 0 ≤ fr ∧ fr ≤ s.size
    · obtain ⟨h1, h2⟩ := hin
      have h1' : ¬ fr < 0 := by omega
      have h2' : ¬ (s.size : Int) < fr := by omega
      have Hc := hd (Hfound.out r (r + u.size) (fun _ => Hr.out) (fun h => absurd ⟨h1, by rw [len_data]; exact h2⟩ h) rfl)
      go_wp2_with fail
      refine Hc.out.mono ?_
      rintro e w4 ⟨rfl, hb4⟩
      go_wp2
      go_ret
      exact ⟨rfl, hb4⟩
    · have Hc := hd (Hfound.out (-1) (-1 + u.size) (fun h => absurd ⟨h.1, by rw [← len_data]; exact h.2⟩ hin) (fun _ => rfl) rfl)
      by_cases h1 : fr < 0
      · go_wp2_with fail
        refine Hc.out.mono ?_
        rintro e w4 ⟨rfl, hb4⟩
        go_wp2
        go_ret
        exact ⟨rfl, hb4⟩
      · have h2 : (s.size : Int) < fr := by omega
        go_wp2_with fail
        refine Hc.out.mono ?_
        rintro e w4 ⟨rfl, hb4⟩
        go_wp2
        go_ret
        exact ⟨rfl, hb4⟩
end Go.Proofs.YtldiemjlpnachaaDoor
