import Derived.Test.YtldiemjlpnachaaDoorLitLaw
namespace Go.Proofs.YtldiemjlpnachaaDoor
open Go.RowKit

theorem mtrow_app (s : List UInt8) : ∀ (a b : List Tr) (i j : Nat), MtRow s (a ++ b) i j ↔ ∃ k, MtRow s a i k ∧ MtRow s b k j
  | [], b, i, j => by
    rw [List.nil_append]
    simp only [MtRow]
    exact ⟨fun h => ⟨i, rfl, h⟩, fun ⟨k, h1, h2⟩ => by rw [h1] at h2; exact h2⟩
  | x :: r, b, i, j => by
    rw [List.cons_append]
    simp only [MtRow]
    constructor
    · rintro ⟨k, h1, h2⟩
      obtain ⟨k2, h3, h4⟩ := (mtrow_app s r b k j).1 h2
      exact ⟨k2, ⟨k, h1, h3⟩, h4⟩
    · rintro ⟨k2, ⟨k, h1, h3⟩, h4⟩
      exact ⟨k, h1, (mtrow_app s r b k j).2 ⟨k2, h3, h4⟩⟩
/-- THE READING OF A WORD BETWEEN ANCHORS -/
theorem whole_parse (u : List UInt8) (hl : (94 :: (plainL u ++ [36])).length ≤ 60) (hlf : lfT (94 :: (plainL u ++ [36])) = none) :
    (parseT (94 :: (plainL u ++ [36]))).1 = 0 ∧ refT0 (94 :: (plainL u ++ [36])) = [] ∧ itsT (94 :: (plainL u ++ [36])) = [itBeg] ++ wordI u ++ [itFin] := by
  have hll : (94 :: (plainL u ++ [36])).length = (plainL u).length + 2 := by simp
  have s1 : stepT (94 :: (plainL u ++ [36])) st0 = (0, wst [itBeg] 1) := by
    unfold stepT
    rw [show st0.pos = 0 from rfl, show ch (94 :: (plainL u ++ [36])) 0 = 94 from rfl, if_neg (by decide), if_neg (by decide), if_neg (by decide), if_pos ⟨rfl, rfl⟩]
    rfl
  obtain ⟨f', hf', hg⟩ := go_word [36] u [94] [itBeg] 60 (by omega)
  have e1 : [94] ++ (plainL u ++ [36]) = 94 :: (plainL u ++ [36]) := rfl
  have e2 : ([94] : List UInt8).length = 1 := rfl
  rw [e1, e2] at hg
  have s2 : stepT (94 :: (plainL u ++ [36])) (wst ([itBeg] ++ wordI u) (1 + (plainL u).length)) = (0, wst ([itBeg] ++ wordI u ++ [itFin]) (1 + (plainL u).length + 1)) := by
    have hch : ch (94 :: (plainL u ++ [36])) (1 + (plainL u).length) = 36 := by
      have := ch_at (pre := 94 :: plainL u) (r := []) (c := 36)
      simp only [List.length_cons, List.cons_append] at this
      rw [Nat.add_comm 1]
      exact this
    unfold stepT
    rw [show (wst ([itBeg] ++ wordI u) (1 + (plainL u).length)).pos = 1 + (plainL u).length from rfl, hch, if_neg (by decide), if_neg (by decide), if_neg (by decide), if_neg (fun h => by cases h.1), if_pos ⟨rfl, by rw [hll]; simp; omega⟩]
    rfl
  obtain ⟨f2, rfl⟩ : ∃ f2, f' = f2 + 1 := ⟨f' - 1, by omega⟩
  have hgo : goT (94 :: (plainL u ++ [36])) 61 st0 = (0, wst ([itBeg] ++ wordI u ++ [itFin]) (1 + (plainL u).length + 1)) := by
    rw [goT_more (f := 60) (by show 0 < _; simp) s1, hg, goT_more (by show 1 + (plainL u).length < _; rw [hll]; omega) s2]
    exact goT_out (by show ¬ 1 + (plainL u).length + 1 < _; rw [hll]; omega)
  have hw := (plainL_len u).1
  have hpr : parseR (94 :: (plainL u ++ [36])) (goT (94 :: (plainL u ++ [36])) 61 st0) = (0, 0, 0) := by
    rw [hgo]
    refine parseR_ok (by omega) hlf rfl ?_
    show ¬ 200 < rowGo (([itBeg] ++ wordI u ++ [itFin]).map (·.2)) 1
    have e3 : ([itBeg] ++ wordI u ++ [itFin]).map (·.2) = List.replicate (u.length + 2) 1 := by
      rw [List.map_append, List.map_append, wordI_sz]
      show [1] ++ List.replicate u.length 1 ++ [1] = _
      rw [List.replicate_succ, List.replicate_succ']
      rfl
    rw [e3, rowGo_ones _ _ (by omega) (by omega)]
    omega
  refine ⟨by unfold parseT; rw [hpr], by unfold refT0 refR; rw [hpr, if_pos rfl, hgo]; rfl, by unfold itsT; rw [hgo]; rfl⟩
theorem whole_row (s u : List UInt8) (i j : Nat) (hi : i ≤ s.length) : MtRow s (([itBeg] ++ wordI u ++ [itFin]).map (·.3)) i j ↔ i = 0 ∧ s = u ∧ j = u.length := by
  rw [List.map_append, List.map_append, mtrow_app, ]
  constructor
  · rintro ⟨k, h1, h2⟩
    obtain ⟨k1, h3, h4⟩ := (mtrow_app s _ _ i k).1 h1
    have h3' : i = 0 ∧ k1 = i := by
      have : ∃ q, (i = 0 ∧ q = i) ∧ k1 = q := by simpa [MtRow, Mt] using h3
      obtain ⟨q, h5, h6⟩ := this
      exact ⟨h5.1, by rw [h6]; exact h5.2⟩
    obtain ⟨rfl, rfl⟩ := h3'
    obtain ⟨h5, rfl⟩ := (word_row s u 0 k (Nat.zero_le _)).1 h4
    have h6 : 0 + u.length = s.length ∧ j = 0 + u.length := by
      have : ∃ q, (0 + u.length = s.length ∧ q = 0 + u.length) ∧ j = q := by simpa [MtRow, Mt] using h2
      obtain ⟨q, h7, h8⟩ := this
      exact ⟨h7.1, by rw [h8]; exact h7.2⟩
    unfold stands at h5
    rw [List.drop_zero, List.take_of_length_le (by omega)] at h5
    exact ⟨rfl, h5, by omega⟩
  · rintro ⟨rfl, rfl, rfl⟩
    refine ⟨s.length, (mtrow_app s _ _ 0 _).2 ⟨0, ?_, (word_row s s 0 _ (Nat.zero_le _)).2 ⟨?_, by omega⟩⟩, ?_⟩
    · simp [MtRow, Mt]
    · unfold stands; simp
    · simp [MtRow, Mt]
theorem whole_found (u s : List UInt8) (its : List It) (hits : its = [itBeg] ++ wordI u ++ [itFin]) (i : Int) (hi : (s = u ∧ i = 0) ∨ (s ≠ u ∧ i = -1)) :
    ∀ fd a b, FindRes s.length (fun x y => MtRow s (its.map (·.3)) x y) 0 fd a b → if i < 0 then fd = false ∧ a = 0 ∧ b = 0 else fd = true ∧ (a : Int) = i ∧ (b : Int) = (u.length : Int) := by
  intro fd a b h
  subst hits
  have hb := h.1 ⟨Int.le_refl _, by omega⟩
  rcases hi with ⟨rfl, rfl⟩ | ⟨hne, rfl⟩
  · rw [if_neg (by omega)]
    have : Best s.length (fun x y => MtRow s (([itBeg] ++ wordI s ++ [itFin]).map (·.3)) x y) (0 : Int).toNat true 0 s.length := ⟨fun _ => ⟨by simp, Nat.zero_le _, (whole_row s s 0 _ (Nat.zero_le _)).2 ⟨rfl, rfl, rfl⟩, fun x y _ g2 g3 => by
      obtain ⟨rfl, _, rfl⟩ := (whole_row s s x y g2).1 g3
      exact ⟨Nat.le_refl _, fun _ => Nat.le_refl _⟩⟩, fun h => by cases h⟩
    obtain ⟨e1, e2, e3⟩ := hb.uniq this
    exact ⟨e1, by omega, by omega⟩
  · rw [if_pos (by omega)]
    have : Best s.length (fun x y => MtRow s (([itBeg] ++ wordI u ++ [itFin]).map (·.3)) x y) (0 : Int).toNat false 0 0 := ⟨(fun h => by cases h), fun _ => ⟨rfl, rfl, fun x y _ g2 g3 => hne ((whole_row s u x y g2).1 g3).2.1⟩⟩
    exact hb.uniq this

set_option maxHeartbeats 1600000 in
theorem whole_any (u s : ByteArray) (w : World) (hn : NamesIn w) (hu : u.size ≤ 140737488351232) (hs : s.size ≤ 140737488351232) :
    Calls Tryd.prog 10 #[.string u, .string s] w fun e w' => e = .returned (.bool true) ∧ Below w.heap.size w w' := by
  have Hn := hd hn
  have Hpl := hd (plain_any u w (by omega))
  clear hn
  go_enter Tryd.func10, Tryd.ntmps10
  go_wp2_with fail
  refine Hpl.out.mono ?_
  rintro e w1 ⟨⟨p, rfl, hp⟩, rfl⟩
  have hps : p.size ≤ 281474976702464 := by
    have h1 := (plainL_len u.data.toList).2
    rw [← hp, len_data, len_data] at h1
    omega
  have hq : (({ data := #[94] } ++ p ++ { data := #[36] } : ByteArray)).data.toList = 94 :: (plainL u.data.toList ++ [36]) := by
    rw [app_list, app_list, hp]
    rfl
  have hqs : (({ data := #[94] } ++ p ++ { data := #[36] } : ByteArray)).size = p.size + 2 := by
    rw [ByteArray.size_append, ByteArray.size_append]
    show 1 + p.size + 1 = _
    omega
  have Hfi := hd (fits_any ({ data := #[94] } ++ p ++ { data := #[36] }) s w1 (by rw [hqs]; omega) (by omega))
  have Hq := hd hq
  have Hqs := hd hqs
  clear hp hq hqs
  go_wp2_with fail
  refine Hfi.out.mono ?_
  rintro e w2 ⟨⟨b, rfl, hb⟩, rfl⟩
  cases b
  · go_wp2
    go_ret
    exact ⟨rfl, Below.refl _ _⟩
  · obtain ⟨hlf, hp60, hs1024⟩ := hb rfl
    rw [Hq.out] at hlf
    have hql : (94 :: (plainL u.data.toList ++ [36])).length ≤ 60 := by rw [← Hq.out, len_data]; exact hp60
    have Hpar := hd (whole_parse u.data.toList hql hlf)
    have Hfound : Hid (∀ i : Int, (s.data.toList = u.data.toList ∧ i = 0) ∨ (s.data.toList ≠ u.data.toList ∧ i = -1) → Calls Tryd.prog 24 #[.string ({ data := #[94] } ++ p ++ { data := #[36] }), .string s, .int .i64 0, .int .i64 i, .int .i64 u.size] w2 fun e w' => e = .returned (.bool true) ∧ Below w2.heap.size w2 w') := by
      refine hd (fun i hi => ?_)
      refine found_at _ s (94 :: (plainL u.data.toList ++ [36])) s.data.toList 0 i u.size w2 Hq.out rfl Hn.out (by unfold maxLen; omega) (by rw [len_data]; omega) Hpar.out.1 Hpar.out.2.1 ?_
      have := whole_found u.data.toList s.data.toList _ Hpar.out.2.2 i hi
      rw [len_data] at this
      rw [len_data]
      exact this
    clear hlf hb hql hp60
    by_cases heq : s.data.toList = u.data.toList
    · have hbt : (s.toList == u.toList) = true := by rw [ByteArray.toList_eq, ByteArray.toList_eq]; simp [heq]
      have Hc := hd (Hfound.out 0 (.inl ⟨heq, rfl⟩))
      clear heq
      go_wp2_with fail
      refine Hc.out.mono ?_
      rintro e w4 ⟨rfl, hb4⟩
      go_wp2
      go_ret
      exact ⟨rfl, hb4⟩
    · have hbt : (s.toList == u.toList) = false := by rw [ByteArray.toList_eq, ByteArray.toList_eq]; simpa using heq
      have Hc := hd (Hfound.out (-1) (.inr ⟨heq, rfl⟩))
      clear heq
      go_wp2_with fail
      refine Hc.out.mono ?_
      rintro e w4 ⟨rfl, hb4⟩
      go_wp2
      go_ret
      exact ⟨rfl, hb4⟩
end Go.Proofs.YtldiemjlpnachaaDoor
