import Derived.Test.YtldiemjlpnachaaDoorCnt
import Derived.Test.YtldiemjlpnachaaDoorMks
import Derived.Test.YtldiemjlpnachaaDoorCntLaw
import Derived.Test.YtldiemjlpnachaaDoorBpn
/- What stands twice: the reading of its pattern, and what it matches. Nothing of memory. -/
namespace Go.Proofs.YtldiemjlpnachaaDoor

abbrev dotI : It := itOne (addR noS 0 255)
theorem dot_ch (s : List UInt8) (i : Nat) : addR noS 0 255 (ch s i) = true := by
  have h : ch s i ≤ 255 := by
    unfold ch
    cases s[i]? with
    | none => simp
    | some c => have := c.toNat_lt; simp; omega
  simp [addR, noS]
  omega
def twoI (u : List UInt8) : List It := itGrp 1 [dotI, itRep 0 (-1) dotI] :: (wordI u ++ [itBack 1])
/-- THE READING -/
theorem two_parse (u : List UInt8) (hu : ∀ c ∈ u, spec c = false) (hul : u.length ≤ 51) (hlf : lfT ([92, 40, 46, 46, 42, 92, 41] ++ (u ++ [92, 49])) = none) :
    (parseT ([92, 40, 46, 46, 42, 92, 41] ++ (u ++ [92, 49]))).1 = 0 ∧ refT0 ([92, 40, 46, 46, 42, 92, 41] ++ (u ++ [92, 49])) = [1] ∧ itsT ([92, 40, 46, 46, 42, 92, 41] ++ (u ++ [92, 49])) = twoI u := by
  generalize hl : [92, 40, 46, 46, 42, 92, 41] ++ (u ++ [92, 49]) = l at hlf ⊢
  have hll : l.length = u.length + 9 := by rw [← hl]; simp
  have c0 : ch l 0 = 92 := by rw [← hl]; rfl
  have c1 : ch l 1 = 40 := by rw [← hl]; rfl
  have c2 : ch l 2 = 46 := by rw [← hl]; rfl
  have c3 : ch l 3 = 46 := by rw [← hl]; rfl
  have c4 : ch l 4 = 42 := by rw [← hl]; rfl
  have c5 : ch l 5 = 92 := by rw [← hl]; rfl
  have c6 : ch l 6 = 41 := by rw [← hl]; rfl
  have e1 : l = ([92, 40, 46, 46, 42, 92, 41] ++ u) ++ [92, 49] := by rw [← hl]; simp
  have cs : ∀ k, ch l (7 + u.length + k) = ch [92, 49] k := fun k => by rw [e1]; exact ch_pre (by simp; omega) k
  have c7 : ch l (7 + u.length) = 92 := cs 0
  have c8 : ch l (7 + u.length + 1) = 49 := cs 1
  have s1 : stepT l st0 = (0, wsg σo [] 2) := by
    unfold stepT
    rw [show st0.pos = 0 from rfl, c0, if_pos rfl]
    unfold escT
    rw [show st0.pos = 0 from rfl, show 0 + 1 = 1 from rfl, c1, if_neg (by omega), if_pos rfl]
    rfl
  have s2 : stepT l (wsg σo [] 2) = (0, wsg σo [dotI] 3) := by
    unfold stepT
    rw [show (wsg σo [] 2).pos = 2 from rfl, c2, if_neg (by decide), if_neg (by decide), if_pos rfl]
    rfl
  have s3 : stepT l (wsg σo [dotI] 3) = (0, wsg σo [dotI, dotI] 4) := by
    unfold stepT
    rw [show (wsg σo [dotI] 3).pos = 3 from rfl, c3, if_neg (by decide), if_neg (by decide), if_pos rfl]
    rfl
  have s4 : stepT l (wsg σo [dotI, dotI] 4) = (0, wsg σo [dotI, itRep 0 (-1) dotI] 5) := by
    unfold stepT
    rw [show (wsg σo [dotI, dotI] 4).pos = 4 from rfl, c4, if_neg (by decide), if_neg (by decide), if_neg (by decide), if_neg (fun h => absurd h.1 (by decide)), if_neg (fun h => absurd h.1 (by decide)), if_pos ⟨rfl, rfl⟩]
    rfl
  have s5 : stepT l (wsg σo [dotI, itRep 0 (-1) dotI] 5) = (0, wsg (σc 7 [itGrp 1 [dotI, itRep 0 (-1) dotI]]) [itGrp 1 [dotI, itRep 0 (-1) dotI]] 7) := by
    unfold stepT
    rw [show (wsg σo [dotI, itRep 0 (-1) dotI] 5).pos = 5 from rfl, c5, if_pos rfl]
    unfold escT
    rw [show (wsg σo [dotI, itRep 0 (-1) dotI] 5).pos = 5 from rfl, show 5 + 1 = 6 from rfl, c6, if_neg (by omega), if_neg (by decide), if_pos rfl]
    rfl
  have hgw := go_wordg (σc 7 [itGrp 1 [dotI, itRep 0 (-1) dotI]]) [92, 49] u [92, 40, 46, 46, 42, 92, 41] [itGrp 1 [dotI, itRep 0 (-1) dotI]] 56 hu (by omega)
  rw [hl, show ([92, 40, 46, 46, 42, 92, 41] : List UInt8).length = 7 from rfl] at hgw
  have s6 : stepT l (wsg (σc 7 [itGrp 1 [dotI, itRep 0 (-1) dotI]]) ([itGrp 1 [dotI, itRep 0 (-1) dotI]] ++ wordI u) (7 + u.length)) = (0, { wsg (σc 7 [itGrp 1 [dotI, itRep 0 (-1) dotI]]) (twoI u) l.length with refl := [1] }) := by
    unfold stepT
    rw [show (wsg (σc 7 [itGrp 1 [dotI, itRep 0 (-1) dotI]]) ([itGrp 1 [dotI, itRep 0 (-1) dotI]] ++ wordI u) (7 + u.length)).pos = 7 + u.length from rfl, c7, if_pos rfl]
    unfold escT
    rw [show (wsg (σc 7 [itGrp 1 [dotI, itRep 0 (-1) dotI]]) ([itGrp 1 [dotI, itRep 0 (-1) dotI]] ++ wordI u) (7 + u.length)).pos = 7 + u.length from rfl, c8, if_neg (by omega), if_neg (by decide), if_neg (by decide), if_neg (by decide), if_pos (by decide)]
    unfold refT
    rw [if_neg (by simp [wsg, σc, σo]), if_neg (by simp [St.referred, wsg, σc, σo, st0]), if_neg (by simp [St.refs, wsg, σc, σo, st0])]
    have ep : 7 + u.length + 2 = l.length := by omega
    have ei : [itGrp 1 [dotI, itRep 0 (-1) dotI]] ++ wordI u ++ [itBack 1] = twoI u := by unfold twoI; simp
    rw [← ep, ← ei]
    rfl
  have hgo : goT l 61 st0 = (0, { wsg (σc 7 [itGrp 1 [dotI, itRep 0 (-1) dotI]]) (twoI u) l.length with refl := [1] }) := by
    rw [goT_more (f := 60) (by show 0 < l.length; omega) s1, goT_more (f := 59) (by show 2 < l.length; omega) s2, goT_more (f := 58) (by show 3 < l.length; omega) s3, goT_more (f := 57) (by show 4 < l.length; omega) s4, goT_more (f := 56) (by show 5 < l.length; omega) s5, hgw]
    obtain ⟨f2, hf2⟩ : ∃ f2, 56 - u.length = f2 + 1 := ⟨55 - u.length, by omega⟩
    rw [hf2, goT_more (by show 7 + u.length < l.length; omega) s6]
    exact goT_out (by show ¬ l.length < l.length; omega)
  have hmap : (twoI u).map (·.2) = 5 :: List.replicate (u.length + 1) 1 := by
    unfold twoI
    rw [List.map_cons, List.map_append, wordI_sz, List.replicate_succ', show (itGrp 1 [dotI, itRep 0 (-1) dotI]).2 = 5 from by kernel_rfl]
    rfl
  have hpr : parseR l (goT l 61 st0) = (0, 0, 1) := by
    rw [hgo]
    refine parseR_ok (by omega) hlf rfl ?_
    show ¬ 200 < rowGo ((twoI u).map (·.2)) 1
    rw [hmap, rowGo, if_neg (by omega), rowGo_ones _ _ (by omega) (by omega)]
    omega
  refine ⟨by unfold parseT; rw [hpr], by unfold refT0 refR; rw [hpr, if_pos rfl, hgo], by unfold itsT; rw [hgo]; rfl⟩
/-- a word, then the rest -/
theorem word_rowG (s : List UInt8) (rf : List Nat) (post : List Tr) : ∀ (w : List UInt8) (i : Nat) (μ : Mks) (v : Cf), i ≤ s.length → (MgRow s rf ((wordI w).map (·.3) ++ post) (i, μ) v ↔ atB s w i = true ∧ MgRow s rf post (i + w.length, μ) v)
  | [], i, μ, v, hi => by
    have : (wordI []).map (·.3) = [] := rfl
    rw [this, List.nil_append]
    simp only [List.length_nil, Nat.add_zero]
    constructor
    · intro h; exact ⟨by unfold atB; simp [sw, hi], h⟩
    · exact fun h => h.2
  | c :: r, i, μ, v, hi => by
    have e : (wordI (c :: r)).map (·.3) = .one (addS noS c.toNat) :: (wordI r).map (·.3) := rfl
    rw [e, List.cons_append]
    simp only [MgRow, Mg]
    constructor
    · rintro ⟨y, ⟨h1, h2, rfl⟩, h3⟩
      obtain ⟨h4, h5⟩ := (word_rowG s rf post r (i + 1) μ v h1).1 h3
      rw [addS_no] at h2
      refine ⟨?_, by rw [List.length_cons, show i + (r.length + 1) = i + 1 + r.length by omega]; exact h5⟩
      exact (atB_iff hi).2 (by
        have h6 := (atB_iff (s := s) (t := r) (i := i + 1) h1).1 h4
        unfold stands at h6 ⊢
        rw [List.drop_eq_getElem_cons h1, List.length_cons, List.take_succ_cons, h6]
        congr 1
        have : ch s i = s[i].toNat := by unfold ch; rw [List.getElem?_eq_getElem h1]; rfl
        rw [this] at h2
        exact UInt8.toNat_inj.1 h2)
    · rintro ⟨h1, h2⟩
      have h3 := (atB_iff hi).1 h1
      unfold stands at h3
      have hil : i < s.length := by
        rcases Nat.lt_or_ge i s.length with h | h
        · exact h
        · rw [List.drop_eq_nil_of_le h] at h3; simp at h3
      rw [List.drop_eq_getElem_cons hil, List.length_cons, List.take_succ_cons] at h3
      injection h3 with h4 h5
      refine ⟨(i + 1, μ), ⟨hil, ?_, rfl⟩, (word_rowG s rf post r (i + 1) μ v (by omega)).2 ⟨(atB_iff (by omega)).2 h5, by rw [show i + 1 + r.length = i + (r.length + 1) by omega]; exact h2⟩⟩
      rw [addS_no]
      have : ch s i = s[i].toNat := by unfold ch; rw [List.getElem?_eq_getElem hil]; rfl
      show ch s i = _
      rw [this, h4]
theorem dots_pow (s : List UInt8) (rf : List Nat) : ∀ (t i : Nat) (μ : Mks) (v : Cf), i ≤ s.length → (PowG (Adv (fun u v => Mg s rf (.one (addR noS 0 255)) u v)) t (i, μ) v ↔ i + t ≤ s.length ∧ v = (i + t, μ))
  | 0, i, μ, v, hi => by
    constructor
    · intro h; cases h; exact ⟨hi, rfl⟩
    · rintro ⟨_, rfl⟩; exact .zero _
  | t + 1, i, μ, v, hi => by
    constructor
    · intro h
      cases h with
      | succ h1 h2 =>
        obtain ⟨h3, _⟩ := h1
        simp only [Mg] at h3
        obtain ⟨h4, _, rfl⟩ := h3
        obtain ⟨h5, h6⟩ := (dots_pow s rf t (i + 1) μ v h4).1 h2
        exact ⟨by omega, by rw [h6, show i + 1 + t = i + (t + 1) by omega]⟩
    · rintro ⟨h1, rfl⟩
      refine .succ (v := (i + 1, μ)) ⟨?_, by simp⟩ ((dots_pow s rf t (i + 1) μ _ (by omega)).2 ⟨by omega, by rw [show i + 1 + t = i + (t + 1) by omega]⟩)
      simp only [Mg]
      exact ⟨by omega, dot_ch s i, trivial⟩
/-- WHAT IT MATCHES -/
def twoM (s u : List UInt8) (i j : Nat) : Prop := ∃ k, 0 < k ∧ i + k ≤ s.length ∧ atB s u (i + k) = true ∧ Stands s i (i + k) (i + k + u.length) ∧ j = i + 2 * k + u.length
theorem two_row (s u : List UInt8) (i j : Nat) (hi : i ≤ s.length) : (∃ μ, MgRow s [1] ((twoI u).map (·.3)) (i, fun _ => .no) (j, μ)) ↔ twoM s u i j := by
  have e : (twoI u).map (·.3) = .grp 1 [.one (addR noS 0 255), .rep 0 (-1) (.one (addR noS 0 255))] :: ((wordI u).map (·.3) ++ [.back 1]) := by
    unfold twoI
    rw [List.map_cons, List.map_append]
    rfl
  have hx : ([1] : List Nat).idxOf 1 = 0 := rfl
  rw [e]
  constructor
  · rintro ⟨μ, h⟩
    simp only [MgRow, Mg] at h
    obtain ⟨y, h1, h2⟩ := h
    rw [if_pos (by simp)] at h1
    rw [hx] at h1
    obtain ⟨x, q, ⟨y1, ⟨g1, _, rfl⟩, y2, g2, rfl⟩, h4, rfl⟩ := h1
    obtain ⟨x1, g3, t, _, g4⟩ := g2
    cases g3
    obtain ⟨g5, rfl⟩ := (dots_pow s [1] t (i + 1) _ _ (by omega)).1 g4
    simp only [setM, if_true] at h4
    cases h4
    obtain ⟨h5, h6⟩ := (word_rowG s [1] _ u _ _ _ (by exact g5)).1 h2
    simp only [MgRow, Mg] at h6
    obtain ⟨z, ⟨a, b, h7, h8, rfl⟩, h9⟩ := h6
    rw [hx] at h7
    simp only [setM, if_true] at h7
    cases h7
    cases h9
    refine ⟨1 + t, by omega, by omega, by rw [show i + (1 + t) = i + 1 + t by omega]; exact h5, by rw [show i + (1 + t) = i + 1 + t by omega]; exact h8, by omega⟩
  · rintro ⟨k, h1, h2, h3, h4, rfl⟩
    obtain ⟨t, rfl⟩ : ∃ t, k = 1 + t := ⟨k - 1, by omega⟩
    refine ⟨setM (setM (fun _ => .no) 0 (.op i)) 0 (.sp i (i + 1 + t)), ?_⟩
    rw [MgRow]
    refine ⟨(i + 1 + t, setM (setM (fun _ => .no) 0 (.op i)) 0 (.sp i (i + 1 + t))), ?_, ?_⟩
    · rw [Mg, if_pos (by simp), hx]
      refine ⟨(i + 1 + t, setM (fun _ => .no) 0 (.op i)), i, ?_, by simp [setM], rfl⟩
      rw [MgRow]
      refine ⟨(i + 1, setM (fun _ => .no) 0 (.op i)), ?_, ?_⟩
      · rw [Mg]
        exact ⟨by show i < _; omega, dot_ch s i, rfl⟩
      · rw [MgRow]
        refine ⟨_, ?_, by rw [MgRow]⟩
        rw [Mg]
        exact ⟨(i + 1, setM (fun _ => .no) 0 (.op i)), .zero _, t, .inl rfl, (dots_pow s [1] t (i + 1) _ _ (by omega)).2 ⟨by omega, rfl⟩⟩
    rw [show i + (1 + t) = i + 1 + t by omega] at h3 h4
    refine (word_rowG s [1] _ u _ _ _ (by omega)).2 ⟨h3, ?_⟩
    simp only [MgRow, Mg]
    rw [hx]
    exact ⟨_, ⟨i, i + 1 + t, by simp [setM], h4, rfl⟩, by simp; omega⟩
end Go.Proofs.YtldiemjlpnachaaDoor
namespace Go.Proofs.YtldiemjlpnachaaDoor
open Go.RowKit

theorem stands_part {s : List UInt8} {i k p : Nat} (hk0 : 0 < k) (hk : i + k ≤ s.length) : stands s p ((s.drop i).take k) ↔ Stands s i (i + k) p := by
  have hl : ((s.drop i).take k).length = k := by rw [List.length_take, List.length_drop]; omega
  unfold stands Stands
  rw [hl, show i + k - i = k by omega]
  constructor
  · intro h
    have h1 := congrArg List.length h
    rw [hl, List.length_take, List.length_drop] at h1
    refine ⟨by omega, fun t ht => ?_⟩
    have h2 : ((s.drop p).take k)[t]? = ((s.drop i).take k)[t]? := by rw [h]
    rw [List.getElem?_take_of_lt ht, List.getElem?_take_of_lt ht, List.getElem?_drop, List.getElem?_drop] at h2
    unfold ch
    rw [h2]
  · rintro ⟨h1, h2⟩
    apply List.ext_getElem?
    intro t
    rcases Nat.lt_or_ge t k with ht | ht
    · rw [List.getElem?_take_of_lt ht, List.getElem?_take_of_lt ht, List.getElem?_drop, List.getElem?_drop]
      have h3 := h2 t ht
      unfold ch at h3
      rw [List.getElem?_eq_getElem (show i + t < s.length by omega), List.getElem?_eq_getElem (show p + t < s.length by omega)] at h3 ⊢
      simp at h3
      rw [UInt8.toNat_inj.1 h3]
    · rw [List.getElem?_eq_none (by rw [List.length_take]; omega), List.getElem?_eq_none (by rw [List.length_take]; omega)]
/-- so long a part stands twice -/
def twoK (s u : List UInt8) (i k : Nat) : Bool := atB s u (i + k) && atB s ((s.drop i).take k) (i + k + u.length)
theorem twoK_iff {s u : List UInt8} {i k : Nat} (h0 : 0 < k) (h : i + k ≤ s.length) : twoK s u i k = true ↔ atB s u (i + k) = true ∧ Stands s i (i + k) (i + k + u.length) := by
  unfold twoK
  rw [Bool.and_eq_true]
  constructor
  · rintro ⟨h1, h2⟩
    exact ⟨h1, (stands_part h0 h).1 ((atB_iff (atB_le h1)).1 h2)⟩
  · rintro ⟨h1, h2⟩
    exact ⟨h1, (atB_iff (atB_le h1)).2 ((stands_part h0 h).2 h2)⟩
theorem twoM_iff {s u : List UInt8} {i j : Nat} : twoM s u i j ↔ ∃ k, 0 < k ∧ i + k ≤ s.length ∧ twoK s u i k = true ∧ j = i + 2 * k + u.length := by
  unfold twoM
  constructor
  · rintro ⟨k, h1, h2, h3, h4, h5⟩
    exact ⟨k, h1, h2, (twoK_iff h1 h2).2 ⟨h3, h4⟩, h5⟩
  · rintro ⟨k, h1, h2, h3, h4⟩
    obtain ⟨h5, h6⟩ := (twoK_iff h1 h2).1 h3
    exact ⟨k, h1, h2, h5, h6, h4⟩
/-- the best so far -/
def BestK (s u : List UInt8) (i k : Nat) (b : Int) : Prop := (b = -1 ∧ ∀ x, 0 < x → x < k → twoK s u i x = false) ∨ ∃ x, 0 < x ∧ x < k ∧ twoK s u i x = true ∧ b = ((i + 2 * x + u.length : Nat) : Int) ∧ ∀ y, x < y → y < k → twoK s u i y = false
theorem bestK_no {s u : List UInt8} {i k : Nat} {b : Int} (h : BestK s u i k b) (hk : twoK s u i k = false) : BestK s u i (k + 1) b := by
  rcases h with ⟨h1, h2⟩ | ⟨x, h1, h2, h3, h4, h5⟩
  · refine .inl ⟨h1, fun y h3 h4 => ?_⟩
    rcases Nat.lt_or_ge y k with h | h
    · exact h2 y h3 h
    · rw [show y = k by omega]; exact hk
  · refine .inr ⟨x, h1, by omega, h3, h4, fun y h6 h7 => ?_⟩
    rcases Nat.lt_or_ge y k with h | h
    · exact h5 y h6 h
    · rw [show y = k by omega]; exact hk
theorem bestK_yes {s u : List UInt8} {i k : Nat} {b : Int} (h : BestK s u i k b) (h0 : 0 < k) (hk : twoK s u i k = true) : max b ((i : Int) + 2 * (k : Int) + (u.length : Int)) = (i : Int) + 2 * (k : Int) + (u.length : Int) ∧ BestK s u i (k + 1) ((i : Int) + 2 * (k : Int) + (u.length : Int)) := by
  refine ⟨?_, .inr ⟨k, h0, by omega, hk, by omega, fun y h1 h2 => by omega⟩⟩
  rcases h with ⟨h1, _⟩ | ⟨x, h1, h2, _, h4, _⟩ <;> omega
theorem bestK_le {s u : List UInt8} {i k : Nat} {b : Int} (h : BestK s u i k b) : -1 ≤ b ∧ b ≤ (i : Int) + 2 * k + u.length := by
  rcases h with ⟨h1, _⟩ | ⟨x, h1, h2, _, h4, _⟩ <;> omega
theorem two_yes {pl s u : List UInt8} {i : Nat} {b : Int} (hM : ∀ x y, x ≤ s.length → (Fm pl s x y ↔ twoM s u x y)) (hi : i ≤ s.length) (hb : BestK s u i (s.length - i + 1) b) (h0 : 0 ≤ b) (hno : ∀ x, x < i → ∀ y, ¬ twoM s u x y) :
    ∀ fd a c, FindRes s.length (Fm pl s) 0 fd a c → if (i : Int) < 0 then fd = false ∧ a = 0 ∧ c = 0 else fd = true ∧ (a : Int) = i ∧ (c : Int) = b := by
  intro fd a c h
  have hb1 := h.1 ⟨Int.le_refl _, by omega⟩
  rw [if_neg (by omega)]
  rcases hb with ⟨h1, _⟩ | ⟨x, h1, h2, h3, h4, h5⟩
  · omega
  · have hbest : Best s.length (Fm pl s) (0 : Int).toNat true i (i + 2 * x + u.length) := by
      refine ⟨fun _ => ⟨by simp, hi, (hM _ _ hi).2 (twoM_iff.2 ⟨x, h1, by omega, h3, rfl⟩), fun y z _ g2 g3 => ?_⟩, fun h => (by cases h)⟩
      have g4 := (hM y z g2).1 g3
      have g5 : ¬ y < i := fun hlt => hno y hlt z g4
      refine ⟨by omega, fun e => ?_⟩
      subst e
      obtain ⟨k, k1, k2, k3, rfl⟩ := twoM_iff.1 g4
      rcases Nat.lt_or_ge x k with hk | hk
      · rw [h5 k hk (by omega)] at k3; cases k3
      · omega
    obtain ⟨e1, e2, e3⟩ := hb1.uniq hbest
    exact ⟨e1, by omega, by omega⟩
theorem two_not {s u : List UInt8} {i : Nat} {b : Int} (hb : BestK s u i (s.length - i + 1) b) (h0 : ¬ 0 ≤ b) : ∀ y, ¬ twoM s u i y := by
  intro y hy
  obtain ⟨k, k1, k2, k3, rfl⟩ := twoM_iff.1 hy
  rcases hb with ⟨_, h2⟩ | ⟨x, _, _, _, h4, _⟩
  · rw [h2 k k1 (by omega)] at k3; cases k3
  · omega
theorem two_none {pl s u : List UInt8} (hM : ∀ x y, x ≤ s.length → (Fm pl s x y ↔ twoM s u x y)) (hno : ∀ x, x < s.length → ∀ y, ¬ twoM s u x y) :
    ∀ fd a b, FindRes s.length (Fm pl s) 0 fd a b → if (-1 : Int) < 0 then fd = false ∧ a = 0 ∧ b = 0 else fd = true ∧ (a : Int) = -1 ∧ (b : Int) = 0 := by
  intro fd a b h
  have hb := h.1 ⟨Int.le_refl _, by omega⟩
  rw [if_pos (by omega)]
  have hbest : Best s.length (Fm pl s) (0 : Int).toNat false 0 0 := ⟨(fun h => by cases h), fun _ => ⟨rfl, rfl, fun x y _ g2 g3 => by
    have g4 := (hM x y g2).1 g3
    rcases Nat.lt_or_ge x s.length with h | h
    · exact hno x h y g4
    · obtain ⟨k, k1, k2, _, _⟩ := g4
      omega⟩⟩
  exact hb.uniq hbest
theorem fm_long {pl s : List UInt8} (hr : refT0 pl ≠ []) (hl : 24 < s.length) :
    ∀ fd a b, FindRes s.length (Fm pl s) 0 fd a b → if (-1 : Int) < 0 then fd = false ∧ a = 0 ∧ b = 0 else fd = true ∧ (a : Int) = -1 ∧ (b : Int) = 0 := by
  intro fd a b h
  have hb := h.1 ⟨Int.le_refl _, by omega⟩
  rw [if_pos (by omega)]
  have hbest : Best s.length (Fm pl s) (0 : Int).toNat false 0 0 := ⟨(fun h => by cases h), fun _ => ⟨rfl, rfl, fun x y _ g2 g3 => by
    unfold Fm at g3
    rw [if_neg hr] at g3
    omega⟩⟩
  exact hb.uniq hbest
set_option maxHeartbeats 3200000 in
set_option maxRecDepth 100000 in
theorem twice_any (u s : ByteArray) (w : World) (hn : NamesIn w) (hu : u.size ≤ 140737488351232) (hs : s.size ≤ 140737488351232) :
    Calls Tryd.prog 13 #[.string u, .string s] w fun e w' => e = .returned (.bool true) ∧ Below w.heap.size w w' := by
  have Hn := hd hn
  clear hn
  go_enter Tryd.func13, Tryd.ntmps13
  go_wp2_with fail
  refine (abc_any u w (by omega)).mono ?_
  rintro e w1 ⟨⟨U, rfl, hU⟩, hb1⟩
  have Hb1 := hd hb1
  clear hb1
  go_wp2_with fail
  refine (abc_any s w1 (by omega)).mono ?_
  rintro e w2 ⟨⟨S, rfl, hS⟩, hb2⟩
  have Hb2 := hd (Hb1.out.trans (hb2.mono Hb1.out.size))
  have HUw : Hid (∀ c ∈ U.data.toList, spec c = false) := hd (fun c hc => by
    rw [hU, List.mem_map] at hc
    obtain ⟨d, _, rfl⟩ := hc
    exact spec_abc d)
  have hUs : U.size ≤ 140737488351232 := by have := congrArg List.length hU; simp at this; omega
  have hSs : S.size ≤ 140737488351232 := by have := congrArg List.length hS; simp at this; omega
  have HUl := hd (len_data U)
  have HSl := hd (len_data S)
  clear hb2 hU hS hu hs Hb1
  go_wp2_with fail
  have HP : Hid (({ data := #[92, 40, 46, 46, 42, 92, 41] } ++ U ++ { data := #[92, 49] } : ByteArray).data.toList = [92, 40, 46, 46, 42, 92, 41] ++ (U.data.toList ++ [92, 49])) := hd (by
    simp only [app_list]
    simp)
  have HPs : Hid (({ data := #[92, 40, 46, 46, 42, 92, 41] } ++ U ++ { data := #[92, 49] } : ByteArray).size = U.size + 9) := hd (by
    rw [← len_data, HP.out]
    simp only [List.length_append, HUl.out, List.length_cons, List.length_nil]
    omega)
  generalize { data := #[92, 40, 46, 46, 42, 92, 41] } ++ U ++ { data := #[92, 49] } = P at HP HPs ⊢
  have Hnf := hd (Hn.out.below Hb2.out Hn.out.lt)
  refine (fits_any P S _ (by have := HPs.out; omega) (by omega)).mono ?_
  rintro e w5 ⟨⟨b, rfl, hb⟩, rfl⟩
  cases b
  · go_wp2
    go_ret
    exact ⟨rfl, Hb2.out⟩
  · obtain ⟨hlf, hp60, hs1024⟩ := hb rfl
    have hU51 : U.size ≤ 51 := by have := HPs.out; omega
    rw [HP.out] at hlf
    have Hpar := hd (two_parse U.data.toList HUw.out (by rw [HUl.out]; exact hU51) hlf)
    have Hfound : Hid (∀ i j : Int, (∀ fd a b, FindRes S.data.toList.length (Fm ([92, 40, 46, 46, 42, 92, 41] ++ (U.data.toList ++ [92, 49])) S.data.toList) 0 fd a b → if i < 0 then fd = false ∧ a = 0 ∧ b = 0 else fd = true ∧ (a : Int) = i ∧ (b : Int) = j) → Calls Tryd.prog 24 #[.string P, .string S, .int .i64 0, .int .i64 i, .int .i64 j] w5 fun e w' => e = .returned (.bool true) ∧ Below w5.heap.size w5 w') := hd (fun i j hx =>
      found_all P S _ S.data.toList 0 i j w5 HP.out rfl Hnf.out (by rw [← HP.out, len_data]; unfold maxLen; omega) (by rw [HSl.out]; omega) Hpar.out.1 hx)
    clear hlf hb hSs hUs
    by_cases h400 : 400 < S.size
    · have h400I : (400 : Int) < (S.size : Int) := by omega
      go_wp2
      go_ret
      exact ⟨rfl, Hb2.out⟩
    · have h400I : ¬ (400 : Int) < (S.size : Int) := by omega
      by_cases h24 : 24 < S.size
      · have h24I : (24 : Int) < (S.size : Int) := by omega
        have Hc := hd (Hfound.out (-1) 0 (fm_long (by rw [Hpar.out.2.1]; simp) (by rw [HSl.out]; exact h24)))
        go_wp2_with (go_at_call 24; refine Hc.out.mono ?_; rintro e w4 ⟨rfl, hb4⟩; have Hb4 := hd (Hb2.out.trans (hb4.mono Hb2.out.size)); clear hb4)
        go_ret
        exact ⟨rfl, Hb4.out⟩
      · have h24I : ¬ (24 : Int) < (S.size : Int) := by omega
        have HM : Hid (∀ x y, x ≤ S.data.toList.length → (Fm ([92, 40, 46, 46, 42, 92, 41] ++ (U.data.toList ++ [92, 49])) S.data.toList x y ↔ twoM S.data.toList U.data.toList x y)) := hd (fun x y hx => by
          unfold Fm
          rw [Hpar.out.2.1, if_neg (by simp), Hpar.out.2.2, two_row S.data.toList U.data.toList x y hx]
          exact ⟨fun h => h.2, fun h => ⟨by rw [HSl.out]; omega, h⟩⟩)
        go_wp2_with fail
        go_loop [6, 7, 8] (fun iv _ _ => ∃ i : Nat, iv = .int .i64 i ∧ i ≤ S.size ∧ Hid (∀ x, x < i → ∀ y, ¬ twoM S.data.toList U.data.toList x y)) (fun iv _ _ => S.size - (intOf iv).toNat)
        case atStart => exact ⟨0, rfl, Nat.zero_le _, hd (fun x hx => by omega)⟩
        case round =>
          obtain ⟨i, rfl, hi, HN⟩ := hrel
          by_cases hlt : i < S.size
          · have hltI : (i : Int) < (S.size : Int) := by omega
            go_wp2_with fail
            go_loop [7, 8] (fun bv kv => ∃ (k : Nat) (best : Int), kv = .int .i64 k ∧ bv = .int .i64 best ∧ 0 < k ∧ i + k ≤ S.size + 1 ∧ -1 ≤ best ∧ best ≤ 2000 ∧ Hid (BestK S.data.toList U.data.toList i k best)) (fun _ kv => (S.size + 1) - (intOf kv).toNat)
            case atStart => exact ⟨1, -1, rfl, rfl, by omega, by omega, by omega, by omega, hd (.inl ⟨rfl, fun x h1 h2 => by omega⟩)⟩
            case round =>
              obtain ⟨k, best, rfl, rfl, hk0, hk1, hb0, hb1, HB⟩ := hrel
              by_cases hik : i + k ≤ S.size
              · have hikI : (i : Int) + (k : Int) ≤ (S.size : Int) := by omega
                have hk0I : (0 : Int) < (k : Int) := by omega
                have Hat : Hid (Calls Tryd.prog 26 #[.string S, .int .i64 ((i : Int) + (k : Int)), .string U] w5 fun e w' => e = .returned (.bool (decide (i + k + U.size ≤ S.size) && sw S.data.toList (i + k) U.data.toList)) ∧ w' = w5) := hd (by
                  have := at_any S U (i + k) w5 (by omega) (by omega) (by omega)
                  rw [Int.natCast_add] at this
                  exact this)
                have HE : Hid ((S.extract i (i + k)).data.toList = (S.data.toList.drop i).take k) := hd (by
                  have := extract_list S i (i + k)
                  rw [ByteArray.toList_eq, show i + k - i = k by omega] at this
                  exact this)
                have HEs : Hid ((S.extract i (i + k)).size = k) := hd (by
                  rw [← len_data, HE.out, List.length_take, List.length_drop, HSl.out]
                  omega)
                have Hat2 : Hid (Calls Tryd.prog 26 #[.string S, .int .i64 ((i : Int) + (k : Int) + (U.size : Int)), .string (S.extract i (i + k))] w5 fun e w' => e = .returned (.bool (decide (i + k + U.size + (S.extract i (i + k)).size ≤ S.size) && sw S.data.toList (i + k + U.size) (S.extract i (i + k)).data.toList)) ∧ w' = w5) := hd (by
                  have := at_any S (S.extract i (i + k)) (i + k + U.size) w5 (by omega) (by rw [HEs.out]; omega) (by omega)
                  rw [Int.natCast_add, Int.natCast_add] at this
                  exact this)
                have HK : Hid (twoK S.data.toList U.data.toList i k = ((decide (i + k + U.size ≤ S.size) && sw S.data.toList (i + k) U.data.toList) && (decide (i + k + U.size + (S.extract i (i + k)).size ≤ S.size) && sw S.data.toList (i + k + U.size) (S.extract i (i + k)).data.toList))) := hd (by
                  unfold twoK atB
                  rw [HE.out, HEs.out, HUl.out, HSl.out, List.length_take, List.length_drop, HSl.out, Nat.min_eq_left (by omega)])
                cases hb1' : (decide (i + k + U.size ≤ S.size) && sw S.data.toList (i + k) U.data.toList)
                · rw [hb1'] at Hat HK
                  have HB2 := hd (bestK_no HB.out (by rw [HK.out]; rfl))
                  clear hb1' HB HK Hat2 HE HEs
                  go_wp2_with (go_at_call 26; refine Hat.out.mono ?_; rintro e w' ⟨rfl, hww⟩; have hww2 := hww.symm; clear hww; subst hww2)
                  go_round
                  case rel => exact ⟨k + 1, best, by go_num, rfl, by omega, by omega, hb0, hb1, HB2⟩
                  case measure => simp [intOf]; omega
                · rw [hb1'] at Hat HK
                  cases hb2' : (decide (i + k + U.size + (S.extract i (i + k)).size ≤ S.size) && sw S.data.toList (i + k + U.size) (S.extract i (i + k)).data.toList)
                  · rw [hb2'] at Hat2 HK
                    have HB2 := hd (bestK_no HB.out (by rw [HK.out]; rfl))
                    clear hb1' hb2' HB HK HE HEs
                    go_wp2_with fail
                    refine Hat.out.mono ?_
                    rintro e w' ⟨rfl, hww⟩
                    have hww2 := hww.symm
                    clear hww
                    subst hww2
                    go_wp2_with fail
                    refine Hat2.out.mono ?_
                    rintro e w' ⟨rfl, hww⟩
                    have hww2 := hww.symm
                    clear hww
                    subst hww2
                    go_wp2
                    go_round
                    case rel => exact ⟨k + 1, best, by go_num, rfl, by omega, by omega, hb0, hb1, HB2⟩
                    case measure => simp [intOf]; omega
                  · rw [hb2'] at Hat2 HK
                    have hy := bestK_yes HB.out hk0 (by rw [HK.out]; rfl)
                    rw [HUl.out] at hy
                    have HB2 := hd hy.2
                    have hmx := hy.1
                    clear hb1' hb2' HB HK HE HEs hy
                    go_wp2_with fail
                    refine Hat.out.mono ?_
                    rintro e w' ⟨rfl, hww⟩
                    have hww2 := hww.symm
                    clear hww
                    subst hww2
                    go_wp2_with fail
                    refine Hat2.out.mono ?_
                    rintro e w' ⟨rfl, hww⟩
                    have hww2 := hww.symm
                    clear hww
                    subst hww2
                    go_wp2
                    go_round
                    case rel => exact ⟨k + 1, _, by go_num, by go_num, by omega, by omega, by omega, by omega, HB2⟩
                    case measure => simp [intOf]; omega
              · have hke : k = S.size - i + 1 := by omega
                have hikI : ¬ (i : Int) + (k : Int) ≤ (S.size : Int) := by omega
                have HB3 : Hid (BestK S.data.toList U.data.toList i (S.data.toList.length - i + 1) best) := hd (by rw [HSl.out, ← hke]; exact HB.out)
                clear hke HB
                by_cases h0 : 0 ≤ best
                · have Hc := hd (Hfound.out i best (two_yes HM.out (by rw [HSl.out]; omega) HB3.out h0 HN.out))
                  go_wp2_with (go_at_call 24; refine Hc.out.mono ?_; rintro e w6 ⟨rfl, hb6⟩; have Hb6 := hd (Hb2.out.trans (hb6.mono Hb2.out.size)); clear hb6)
                  go_ret
                  exact ⟨rfl, Hb6.out⟩
                · have Hn2 : Hid (∀ x, x < i + 1 → ∀ y, ¬ twoM S.data.toList U.data.toList x y) := hd (fun x hx y => by
                    rcases Nat.lt_or_ge x i with h | h
                    · exact HN.out x h y
                    · rw [show x = i by omega]; exact two_not HB3.out h0 y)
                  go_wp2
                  go_round
                  case rel => exact ⟨i + 1, by go_num, by omega, Hn2⟩
                  case measure => simp [intOf]; omega
          · have hltI : ¬ (i : Int) < (S.size : Int) := by omega
            have Hc := hd (Hfound.out (-1) 0 (two_none HM.out (fun x hx => HN.out x (by rw [HSl.out] at hx; omega))))
            go_wp2_with (go_at_call 24; refine Hc.out.mono ?_; rintro e w6 ⟨rfl, hb6⟩; have Hb6 := hd (Hb2.out.trans (hb6.mono Hb2.out.size)); clear hb6)
            go_ret
            exact ⟨rfl, Hb6.out⟩
end Go.Proofs.YtldiemjlpnachaaDoor
