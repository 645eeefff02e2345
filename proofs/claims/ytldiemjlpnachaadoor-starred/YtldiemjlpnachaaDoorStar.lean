import Derived.Test.YtldiemjlpnachaaDoorCnt
import Derived.Test.YtldiemjlpnachaaDoorWhoLaw
/- A word, any number of a letter, a word: its reading, and what it matches. -/
namespace Go.Proofs.YtldiemjlpnachaaDoor
open Go.RowKit

theorem rowGo_app : ∀ (a b : List Int) (n : Int), rowGo (a ++ b) n = rowGo b (rowGo a n)
  | [], _, _ => rfl
  | x :: r, b, n => by rw [List.cons_append, rowGo, rowGo, rowGo_app r b]
theorem wordI_app (a b : List UInt8) : wordI (a ++ b) = wordI a ++ wordI b := by unfold wordI; rw [List.map_append]
theorem stepT_star {l : List UInt8} {σ : St} {is : List It} {x : It} {p : Nat} (hp : ch l p = 42) (hx : ((x.1 != 1) && (x.1 != 2)) = true) :
    stepT l (wsg σ (is ++ [x]) p) = (0, wsg σ (is ++ [itRep 0 (-1) x]) (p + 1)) := by
  unfold stepT
  rw [show (wsg σ (is ++ [x]) p).pos = p from rfl, hp, if_neg (by decide), if_neg (by decide), if_neg (by decide), if_neg (fun h => by cases h.1), if_neg (fun h => by cases h.1), if_pos ⟨rfl, by show canB (is ++ [x]) = true; rw [canB_snoc]; exact hx⟩]
  show (0, _) = _
  rw [show (wsg σ (is ++ [x]) p).inner.items = is ++ [x] from rfl, repL_snoc]
  rfl
abbrev starA (u : List UInt8) (c : UInt8) (w : List UInt8) : List It := wordI u ++ [itRep 0 (-1) (itOne (addS noS c.toNat))] ++ wordI w
abbrev starB (c : UInt8) (w : List UInt8) : List It := [itRep 0 (-1) (itGrp 1 (wordI [c]))] ++ wordI w
theorem starA_parse (u w : List UInt8) (c : UInt8) (hu : ∀ x ∈ u, spec x = false) (hw : ∀ x ∈ w, spec x = false) (hc : spec c = false) (hl : (u ++ [c] ++ ([42] ++ w)).length ≤ 60) (hlf : lfT (u ++ [c] ++ ([42] ++ w)) = none) :
    (parseT (u ++ [c] ++ ([42] ++ w))).1 = 0 ∧ refT0 (u ++ [c] ++ ([42] ++ w)) = [] ∧ itsT (u ++ [c] ++ ([42] ++ w)) = starA u c w := by
  have hll : (u ++ [c] ++ ([42] ++ w)).length = u.length + 2 + w.length := by simp; omega
  have g1 := go_wordg st0 ([42] ++ w) (u ++ [c]) [] [] 61 (fun x hx => by
    rcases List.mem_append.1 hx with h | h
    · exact hu x h
    · rw [List.mem_singleton.1 h]; exact hc) (by simp; omega)
  have g2 := go_wordg st0 [] w (u ++ [c] ++ [42]) (wordI u ++ [itRep 0 (-1) (itOne (addS noS c.toNat))]) (61 - (u.length + 2)) hw (by omega)
  have e1 : u ++ [c] ++ [42] ++ (w ++ []) = u ++ [c] ++ ([42] ++ w) := by simp
  have e2 : (u ++ [c] ++ [42]).length = u.length + 2 := by simp
  have hch : ch (u ++ [c] ++ ([42] ++ w)) (u.length + 1) = 42 := by
    have := ch_at (pre := u ++ [c]) (r := w) (c := 42)
    rw [show (u ++ [c]).length = u.length + 1 by simp] at this
    exact this
  rw [e1, e2] at g2
  have hgo : goT (u ++ [c] ++ ([42] ++ w)) 61 st0 = (0, wsg st0 (starA u c w) (u.length + 2 + w.length)) := by
    rw [List.nil_append, List.nil_append, List.length_nil, Nat.zero_add, show (u ++ [c]).length = u.length + 1 by simp, wordI_app, show wordI [c] = [itOne (addS noS c.toNat)] from rfl, show wsg st0 [] 0 = st0 from rfl] at g1
    rw [g1, show 61 - (u.length + 1) = (61 - (u.length + 2)) + 1 by omega, goT_more (σ' := wsg st0 (wordI u ++ [itRep 0 (-1) (itOne (addS noS c.toNat))]) (u.length + 1 + 1)) (by show u.length + 1 < _; rw [hll]; omega) (stepT_star hch rfl), g2]
    exact goT_out (by show ¬ u.length + 2 + w.length < _; rw [hll]; omega)
  have hpr : parseR (u ++ [c] ++ ([42] ++ w)) (goT (u ++ [c] ++ ([42] ++ w)) 61 st0) = (0, 0, 0) := by
    rw [hgo]
    refine parseR_ok (by omega) hlf rfl ?_
    show ¬ 200 < rowGo ((starA u c w).map (·.2)) 1
    rw [List.map_append, List.map_append, wordI_sz, wordI_sz, rowGo_app, rowGo_app, rowGo_ones u.length 1 (by omega) (by omega)]
    have : rowGo ([itRep 0 (-1) (itOne (addS noS c.toNat))].map (·.2)) (1 + (u.length : Int)) = 3 + u.length := by
      show rowGo [(2 : Int)] (1 + (u.length : Int)) = _
      rw [rowGo, rowGo, if_neg (by omega)]
      omega
    rw [this, rowGo_ones _ _ (by omega) (by omega)]
    omega
  refine ⟨by unfold parseT; rw [hpr], by unfold refT0 refR; rw [hpr, if_pos rfl, hgo]; rfl, by unfold itsT; rw [hgo]; rfl⟩
theorem starB_parse (w : List UInt8) (c : UInt8) (hw : ∀ x ∈ w, spec x = false) (hc : spec c = false) (hl : ([92, 40] ++ ([c] ++ ([92, 41] ++ ([42] ++ w)))).length ≤ 60) (hlf : lfT ([92, 40] ++ ([c] ++ ([92, 41] ++ ([42] ++ w)))) = none) :
    (parseT ([92, 40] ++ ([c] ++ ([92, 41] ++ ([42] ++ w))))).1 = 0 ∧ refT0 ([92, 40] ++ ([c] ++ ([92, 41] ++ ([42] ++ w)))) = [] ∧ itsT ([92, 40] ++ ([c] ++ ([92, 41] ++ ([42] ++ w)))) = starB c w := by
  generalize hle : [92, 40] ++ ([c] ++ ([92, 41] ++ ([42] ++ w))) = l at hl hlf ⊢
  have hll : l.length = w.length + 6 := by rw [← hle]; simp
  have c0 : ch l 0 = 92 := by rw [← hle]; rfl
  have c1 : ch l 1 = 40 := by rw [← hle]; rfl
  have c3 : ch l 3 = 92 := by rw [← hle]; rfl
  have c4 : ch l 4 = 41 := by rw [← hle]; rfl
  have c5 : ch l 5 = 42 := by rw [← hle]; rfl
  have s1 : stepT l st0 = (0, wsg σo [] 2) := by
    unfold stepT
    rw [show st0.pos = 0 from rfl, c0, if_pos rfl]
    unfold escT
    rw [show st0.pos = 0 from rfl, show 0 + 1 = 1 from rfl, c1, if_neg (by omega), if_pos rfl]
    rfl
  have hgw := go_wordg σo ([92, 41] ++ ([42] ++ w)) [c] [92, 40] [] 60 (fun x hx => by rw [List.mem_singleton.1 hx]; exact hc) (by simp)
  rw [hle, show ([92, 40] : List UInt8).length = 2 from rfl, List.nil_append, show ([c] : List UInt8).length = 1 from rfl] at hgw
  have s2 : stepT l (wsg σo (wordI [c]) (2 + 1)) = (0, wsg (σc 5 []) [itGrp 1 (wordI [c])] 5) := by
    unfold stepT
    rw [show (wsg σo (wordI [c]) (2 + 1)).pos = 3 from rfl, c3, if_pos rfl]
    unfold escT
    rw [show (wsg σo (wordI [c]) (2 + 1)).pos = 3 from rfl, show 3 + 1 = 4 from rfl, c4, if_neg (by omega), if_neg (by decide), if_pos rfl]
    rfl
  have s3 : stepT l (wsg (σc 5 []) [itGrp 1 (wordI [c])] 5) = (0, wsg (σc 5 []) [itRep 0 (-1) (itGrp 1 (wordI [c]))] (5 + 1)) := stepT_star (is := []) c5 rfl
  have g2 := go_wordg (σc 5 []) [] w [92, 40, c, 92, 41, 42] [itRep 0 (-1) (itGrp 1 (wordI [c]))] 57 hw (by omega)
  rw [show [92, 40, c, 92, 41, 42] ++ (w ++ []) = l by rw [← hle]; simp, show ([92, 40, c, 92, 41, 42] : List UInt8).length = 6 from rfl] at g2
  have hgo : goT l 61 st0 = (0, wsg (σc 5 []) (starB c w) (6 + w.length)) := by
    rw [goT_more (f := 60) (by show 0 < l.length; omega) s1, hgw, show 60 - 1 = 57 + 1 + 1 from rfl, goT_more (by show 3 < l.length; omega) s2, goT_more (by show 5 < l.length; omega) s3, g2]
    exact goT_out (by show ¬ 6 + w.length < l.length; omega)
  have hpr : parseR l (goT l 61 st0) = (0, 0, 1) := by
    rw [hgo]
    refine parseR_ok (by omega) hlf rfl ?_
    show ¬ 200 < rowGo ((starB c w).map (·.2)) 1
    rw [List.map_append, wordI_sz, rowGo_app]
    have : rowGo ([itRep 0 (-1) (itGrp 1 (wordI [c]))].map (·.2)) 1 = 5 := rfl
    rw [this, rowGo_ones _ _ (by omega) (by omega)]
    omega
  refine ⟨by unfold parseT; rw [hpr], by unfold refT0 refR; rw [hpr, if_pos rfl, hgo]; rfl, by unfold itsT; rw [hgo]; rfl⟩
/-- what such a pattern matches -/
def starM (s u : List UInt8) (c : UInt8) (w : List UInt8) (i j : Nat) : Prop :=
  atB s u i = true ∧ ∃ k, runs s [c] (i + u.length) k ∧ atB s w (i + u.length + k) = true ∧ j = i + u.length + k + w.length
theorem rep_runs (s : List UInt8) (c : UInt8) (i j : Nat) (hi : i ≤ s.length) (T : Tr) (hT : ∀ x y, Mt s T x y ↔ MtRow s ((wordI [c]).map (·.3)) x y) :
    Mt s (.rep 0 (-1) T) i j ↔ ∃ k, runs s [c] i k ∧ j = i + k := by
  have e : (fun x y => Mt s T x y) = (fun x y => MtRow s ((wordI [c]).map (·.3)) x y) := by
    funext x y
    exact propext (hT x y)
  simp only [Mt]
  rw [e]
  constructor
  · rintro ⟨k, _, _, h⟩
    obtain ⟨h1, h2⟩ := (pow_runs s [c] k i j hi).1 h
    exact ⟨k, h1, by simpa using h2⟩
  · rintro ⟨k, h1, h2⟩
    exact ⟨k, by simp, .inl (by simp), (pow_runs s [c] k i j hi).2 ⟨h1, by simpa using h2⟩⟩
theorem star_row (s u w : List UInt8) (c : UInt8) (T : Tr) (hT : ∀ x y, Mt s T x y ↔ MtRow s ((wordI [c]).map (·.3)) x y) (i j : Nat) (hi : i ≤ s.length) :
    MtRow s ((wordI u).map (·.3) ++ [.rep 0 (-1) T] ++ (wordI w).map (·.3)) i j ↔ starM s u c w i j := by
  unfold starM
  rw [mtrow_app]
  constructor
  · rintro ⟨k, h1, h2⟩
    obtain ⟨k1, h3, h4⟩ := (mtrow_app s _ _ i k).1 h1
    obtain ⟨h5, rfl⟩ := (word_row s u i k1 hi).1 h3
    have h6 := (atB_iff hi).2 h5
    have h7 := atB_le h6
    have h8 : Mt s (.rep 0 (-1) T) (i + u.length) k := by
      have : ∃ q, Mt s (.rep 0 (-1) T) (i + u.length) q ∧ k = q := by simpa only [MtRow] using h4
      obtain ⟨q, h9, rfl⟩ := this
      exact h9
    obtain ⟨t, h9, rfl⟩ := (rep_runs s c _ _ h7 T hT).1 h8
    have h10 := runs_le s [c] t _ h7 h9
    rw [List.length_singleton, Nat.mul_one] at h10
    obtain ⟨h11, rfl⟩ := (word_row s w _ j h10).1 h2
    exact ⟨h6, t, h9, (atB_iff h10).2 h11, rfl⟩
  · rintro ⟨h1, t, h2, h3, rfl⟩
    have h7 := atB_le h1
    have h10 := runs_le s [c] t _ h7 h2
    rw [List.length_singleton, Nat.mul_one] at h10
    refine ⟨i + u.length + t, (mtrow_app s _ _ i _).2 ⟨i + u.length, (word_row s u i _ hi).2 ⟨(atB_iff hi).1 h1, rfl⟩, ?_⟩, (word_row s w _ _ h10).2 ⟨(atB_iff h10).1 h3, rfl⟩⟩
    have : ∃ q, Mt s (.rep 0 (-1) T) (i + u.length) q ∧ i + u.length + t = q := ⟨_, (rep_runs s c _ _ h7 T hT).2 ⟨t, h2, rfl⟩, rfl⟩
    simpa only [MtRow] using this
theorem starA_row (s u w : List UInt8) (c : UInt8) (i j : Nat) (hi : i ≤ s.length) : MtRow s ((starA u c w).map (·.3)) i j ↔ starM s u c w i j := by
  have := star_row s u w c (.one (addS noS c.toNat)) (fun x y => by
    show _ ↔ MtRow s [.one (addS noS c.toNat)] x y
    simp only [MtRow]
    exact ⟨fun h => ⟨y, h, rfl⟩, fun ⟨k, h, e⟩ => by rw [e]; exact h⟩) i j hi
  rw [List.map_append, List.map_append]
  exact this
theorem starB_row (s w : List UInt8) (c : UInt8) (i j : Nat) (hi : i ≤ s.length) : MtRow s ((starB c w).map (·.3)) i j ↔ starM s [] c w i j := by
  have := star_row s [] w c (.grp 1 ((wordI [c]).map (·.3))) (fun x y => by simp only [Mt]) i j hi
  rw [List.map_append]
  exact this
/-- the greatest end so far -/
def BestI (s w : List UInt8) (b t : Nat) (best : Int) : Prop :=
  (best = -1 ∧ ∀ x, x < t → atB s w (b + x) = false) ∨ ∃ y, y < t ∧ best = ((b + y + w.length : Nat) : Int) ∧ atB s w (b + y) = true ∧ ∀ x, y < x → x < t → atB s w (b + x) = false
theorem best_no {s w : List UInt8} {b t : Nat} {best : Int} (h : BestI s w b t best) (ha : atB s w (b + t) = false) : BestI s w b (t + 1) best := by
  rcases h with ⟨h1, h2⟩ | ⟨y, h1, h2, h3, h4⟩
  · refine .inl ⟨h1, fun x hx => ?_⟩
    by_cases e : x = t
    · rw [e]; exact ha
    · exact h2 x (by omega)
  · refine .inr ⟨y, by omega, h2, h3, fun x g1 g2 => ?_⟩
    by_cases e : x = t
    · rw [e]; exact ha
    · exact h4 x g1 (by omega)
theorem best_yes {s w : List UInt8} {b t : Nat} (ha : atB s w (b + t) = true) (best : Int) (hb : best = ((b + t + w.length : Nat) : Int)) : BestI s w b (t + 1) best :=
  .inr ⟨t, by omega, hb, ha, fun x g1 g2 => by omega⟩
theorem runs_stop {s : List UInt8} {c : UInt8} {b t k : Nat} (hend : atB s [c] (b + t) = false) (h : runs s [c] b k) : k ≤ t := by
  rcases Nat.lt_or_ge t k with hlt | hge
  · exfalso
    have := ((runs_snoc s [c] t b).1 (runs_mono s [c] k (t + 1) b (by omega) h)).2
    rw [List.length_singleton, Nat.mul_one, hend] at this
    cases this
  · exact hge
theorem star_yes (s u w : List UInt8) (c : UInt8) (its : List It) (hrow : ∀ i j, i ≤ s.length → (MtRow s (its.map (·.3)) i j ↔ starM s u c w i j)) (i t : Nat) (best : Int) (hi : i ≤ s.length) (hu : atB s u i = true) (hr : runs s [c] (i + u.length) t) (hend : atB s [c] (i + u.length + t) = false) (hb : BestI s w (i + u.length) (t + 1) best) (h0 : 0 ≤ best) (hno : ∀ x, x < i → ∀ y, ¬ starM s u c w x y) :
    ∀ fd a b, FindRes s.length (fun x y => MtRow s (its.map (·.3)) x y) 0 fd a b → if (i : Int) < 0 then fd = false ∧ a = 0 ∧ b = 0 else fd = true ∧ (a : Int) = i ∧ (b : Int) = best := by
  intro fd a b h
  have hb' := h.1 ⟨Int.le_refl _, by omega⟩
  rw [if_neg (by omega)]
  rcases hb with ⟨h1, _⟩ | ⟨y, h1, h2, h3, h4⟩
  · omega
  have hbest : Best s.length (fun x y => MtRow s (its.map (·.3)) x y) (0 : Int).toNat true i (i + u.length + y + w.length) := by
    refine ⟨fun _ => ⟨by simp, hi, (hrow i _ hi).2 ⟨hu, y, runs_mono s [c] t y _ (by omega) hr, h3, rfl⟩, fun x z _ g2 g3 => ?_⟩, fun h => by cases h⟩
    have g4 := (hrow x z g2).1 g3
    have g5 : ¬ x < i := fun hlt => hno x hlt z g4
    refine ⟨by omega, fun e => ?_⟩
    subst e
    obtain ⟨_, k, g6, g7, rfl⟩ := g4
    have g8 := runs_stop hend g6
    have g9 : k ≤ y := by
      rcases Nat.lt_or_ge y k with hlt | hge
      · rw [h4 k hlt (by omega)] at g7; cases g7
      · exact hge
    omega
  obtain ⟨e1, e2, e3⟩ := hb'.uniq hbest
  exact ⟨e1, by omega, by omega⟩
theorem star_no (s u w : List UInt8) (c : UInt8) (its : List It) (hrow : ∀ i j, i ≤ s.length → (MtRow s (its.map (·.3)) i j ↔ starM s u c w i j)) (hno : ∀ x, x ≤ s.length → ∀ y, ¬ starM s u c w x y) :
    ∀ fd a b, FindRes s.length (fun x y => MtRow s (its.map (·.3)) x y) 0 fd a b → if (-1 : Int) < 0 then fd = false ∧ a = 0 ∧ b = 0 else fd = true ∧ (a : Int) = -1 ∧ (b : Int) = 0 := by
  intro fd a b h
  have hb := h.1 ⟨Int.le_refl _, by omega⟩
  rw [if_pos (by omega)]
  have hbest : Best s.length (fun x y => MtRow s (its.map (·.3)) x y) (0 : Int).toNat false 0 0 := ⟨(fun h => by cases h), fun _ => ⟨rfl, rfl, fun x y _ g2 g3 => hno x g2 y ((hrow x y g2).1 g3)⟩⟩
  exact hb.uniq hbest
theorem star_not {s u w : List UInt8} {c : UInt8} {i t : Nat} {best : Int} (hend : atB s [c] (i + u.length + t) = false) (hb : BestI s w (i + u.length) (t + 1) best) (h0 : ¬ 0 ≤ best) (y : Nat) : ¬ starM s u c w i y := by
  rintro ⟨_, k, g6, g7, _⟩
  have g8 := runs_stop hend g6
  rcases hb with ⟨_, h2⟩ | ⟨y, _, h2, _⟩
  · rw [h2 k (by omega)] at g7; cases g7
  · omega
end Go.Proofs.YtldiemjlpnachaaDoor
