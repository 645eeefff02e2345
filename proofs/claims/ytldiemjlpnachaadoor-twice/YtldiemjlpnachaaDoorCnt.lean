import Derived.Test.YtldiemjlpnachaaDoorAbc
/- A word in a group, so many times: its reading. -/
namespace Go.Proofs.YtldiemjlpnachaaDoor
open Go.RowKit

def wsg (σ : St) (its : List It) (p : Nat) : St := { σ with pos := p, inner := { σ.inner with items := its } }
theorem step_wordg {σ : St} {pre r : List UInt8} {c : UInt8} {its : List It} (hc : spec c = false) : stepT (pre ++ c :: r) (wsg σ its pre.length) = (0, wsg σ (its ++ [itOne (addS noS c.toNat)]) (pre.length + 1)) := by
  have hn : c.toNat ∉ [46, 91, 93, 42, 94, 36, 92] := fun h => by rw [(spec_iff c).2 h] at hc; cases hc
  simp only [List.mem_cons, List.not_mem_nil, or_false, not_or] at hn
  unfold stepT
  rw [show (wsg σ its pre.length).pos = pre.length from rfl, ch_at, if_neg hn.2.2.2.2.2.2, if_neg hn.2.1, if_neg hn.1, if_neg (fun h => hn.2.2.2.2.1 h.1), if_neg (fun h => hn.2.2.2.2.2.1 h.1), if_neg (fun h => hn.2.2.2.1 h.1)]
  rfl
theorem go_wordg (σ : St) (post : List UInt8) : ∀ (w pre : List UInt8) (its : List It) (f : Nat), (∀ c ∈ w, spec c = false) → w.length ≤ f →
    goT (pre ++ (w ++ post)) f (wsg σ its pre.length) = goT (pre ++ (w ++ post)) (f - w.length) (wsg σ (its ++ wordI w) (pre.length + w.length))
  | [], pre, its, f, _, _ => by simp [wordI]
  | c :: r, pre, its, f, hw, hf => by
    have e : pre ++ (c :: r ++ post) = (pre ++ [c]) ++ (r ++ post) := by simp
    have e2 : pre ++ (c :: r ++ post) = pre ++ c :: (r ++ post) := by simp
    simp only [List.length_cons] at hf
    obtain ⟨f0, rfl⟩ : ∃ f0, f = f0 + 1 := ⟨f - 1, by omega⟩
    rw [goT_more (σ' := wsg σ (its ++ [itOne (addS noS c.toNat)]) (pre.length + 1)) (by rw [e2]; show pre.length < _; simp) (by rw [e2]; exact step_wordg (hw c (by simp)))]
    have h2 := go_wordg σ post r (pre ++ [c]) (its ++ [itOne (addS noS c.toNat)]) f0 (fun d hd => hw d (by simp [hd])) (by omega)
    rw [← e, List.length_append, List.length_singleton] at h2
    rw [h2]
    congr 1
    · simp
    · simp [wordI, wsg]; omega
/-- reading behind a text -/
theorem ch_shift (pre r : List UInt8) (k : Nat) : ch (pre ++ r) (pre.length + k) = ch r k := by
  unfold ch
  rw [List.getElem?_append_right (by omega), Nat.add_sub_cancel_left]
theorem sw_shift (pre r t : List UInt8) (k : Nat) : sw (pre ++ r) (pre.length + k) t = sw r k t := by
  unfold sw
  rw [List.drop_append, List.drop_eq_nil_of_le (by omega), List.nil_append, Nat.add_sub_cancel_left]
theorem numGo_shift (pre r : List UInt8) : ∀ f n i, numGo (pre ++ r) f n (pre.length + i) = (numGo r f n i).map (fun x => (x.1, pre.length + x.2))
  | 0, n, i => rfl
  | f + 1, n, i => by
    rw [numGo, numGo, ch_shift]
    split
    · split
      · rfl
      · exact numGo_shift pre r f _ (i + 1)
    · rfl
theorem num_shift (pre r : List UInt8) (i : Nat) : num (pre ++ r) (pre.length + i) = (num r i).map (fun x => (x.1, pre.length + x.2)) := by
  unfold num
  rw [show (pre ++ r).length - (pre.length + i) = r.length - i by simp; omega, numGo_shift]
  cases numGo r (r.length - i) 0 i with
  | none => rfl
  | some x =>
    obtain ⟨a, b⟩ := x
    simp only [Option.map_some]
    by_cases h : b = i
    · rw [if_pos h, if_pos (by omega)]; rfl
    · rw [if_neg h, if_neg (by omega)]; rfl
theorem ivl_shift (pre r : List UInt8) (i : Nat) : ivl (pre ++ r) (pre.length + i) = (ivl r i).map (fun x => (x.1, x.2.1, pre.length + x.2.2)) := by
  unfold ivl
  rw [num_shift]
  cases num r i with
  | none => rfl
  | some x =>
    obtain ⟨m, j⟩ := x
    simp only [Option.map_some]
    rw [sw_shift]
    by_cases h1 : sw r j [44, 92, 125] = true
    · rw [if_pos h1, if_pos h1]; rfl
    · rw [if_neg h1, if_neg h1, sw_shift]
      by_cases h2 : sw r j [44] = true
      · rw [if_pos h2, if_pos h2, Nat.add_assoc, num_shift]
        cases num r (j + 1) with
        | none => rfl
        | some y =>
          obtain ⟨n, k⟩ := y
          simp only [Option.map_some]
          by_cases h3 : n < m
          · rw [if_pos h3, if_pos h3]; rfl
          · rw [if_neg h3, if_neg h3, sw_shift]
            by_cases h4 : sw r k [92, 125] = true
            · rw [if_pos h4, if_pos h4]; rfl
            · rw [if_neg h4, if_neg h4]; rfl
      · rw [if_neg h2, if_neg h2, sw_shift]
        by_cases h3 : sw r j [92, 125] = true
        · rw [if_pos h3, if_pos h3]; rfl
        · rw [if_neg h3, if_neg h3]; rfl
def σo : St := { st0 with pos := 2, inner := ⟨1, 0, []⟩, outer := [⟨0, 0, []⟩], groups := 1 }
def σc (p : Nat) (its : List It) : St := { σo with pos := p, inner := ⟨0, 0, its⟩, outer := [], closed := fun i => if i = 1 then true else σo.closed i }
theorem ch_pre {pre r : List UInt8} {p : Nat} (hp : p = pre.length) (k : Nat) : ch (pre ++ r) (p + k) = ch r k := by subst hp; exact ch_shift pre r k
/-- THE READING OF A WORD IN A GROUP, SO MANY TIMES -/
theorem cnt_parse (w r : List UInt8) (m n : Int) (hw : ∀ c ∈ w, spec c = false) (hwl : w.length ≤ 9) (hr : ivl r 0 = some (m, n, r.length)) (hrl : r.length ≤ 5) (hm : 0 ≤ m ∧ m ≤ 4) (hn : -1 ≤ n ∧ n ≤ 5) (hlf : lfT ([92, 40] ++ (w ++ ([92, 41, 92, 123] ++ r))) = none) :
    (parseT ([92, 40] ++ (w ++ ([92, 41, 92, 123] ++ r)))).1 = 0 ∧ refT0 ([92, 40] ++ (w ++ ([92, 41, 92, 123] ++ r))) = [] ∧ itsT ([92, 40] ++ (w ++ ([92, 41, 92, 123] ++ r))) = [itRep m n (itGrp 1 (wordI w))] := by
  generalize hl : [92, 40] ++ (w ++ ([92, 41, 92, 123] ++ r)) = l at hlf ⊢
  have hll : l.length = w.length + 6 + r.length := by rw [← hl]; simp; omega
  have c0 : ch l 0 = 92 := by rw [← hl]; rfl
  have c1 : ch l 1 = 40 := by rw [← hl]; rfl
  have e1 : l = ([92, 40] ++ w) ++ ([92, 41, 92, 123] ++ r) := by rw [← hl]; simp
  have e2 : l = ([92, 40] ++ w ++ [92, 41, 92, 123]) ++ r := by rw [← hl]; simp
  have cs : ∀ k, ch l (2 + w.length + k) = ch ([92, 41, 92, 123] ++ r) k := fun k => by rw [e1]; exact ch_pre (by simp; omega) k
  have c2 : ch l (2 + w.length) = 92 := cs 0
  have c3 : ch l (2 + w.length + 1) = 41 := cs 1
  have c4 : ch l (2 + w.length + 2) = 92 := cs 2
  have c5 : ch l (2 + w.length + 2 + 1) = 123 := cs 3
  have s1 : stepT l st0 = (0, wsg σo [] 2) := by
    unfold stepT
    rw [show st0.pos = 0 from rfl, c0, if_pos rfl]
    unfold escT
    rw [show st0.pos = 0 from rfl, show 0 + 1 = 1 from rfl, c1, if_neg (by omega), if_pos rfl]
    rfl
  have hgw := go_wordg σo ([92, 41, 92, 123] ++ r) w [92, 40] [] 60 hw (by omega)
  rw [hl, show ([92, 40] : List UInt8).length = 2 from rfl, List.nil_append] at hgw
  have s2 : stepT l (wsg σo (wordI w) (2 + w.length)) = (0, σc (2 + w.length + 2) [itGrp 1 (wordI w)]) := by
    unfold stepT
    rw [show (wsg σo (wordI w) (2 + w.length)).pos = 2 + w.length from rfl, c2, if_pos rfl]
    unfold escT
    rw [show (wsg σo (wordI w) (2 + w.length)).pos = 2 + w.length from rfl, c3, if_neg (by omega), if_neg (by decide), if_pos rfl]
    rfl
  have hiv : ivl l (2 + w.length + 2 + 2) = some (m, n, l.length) := by
    have := ivl_shift ([92, 40] ++ w ++ [92, 41, 92, 123]) r 0
    rw [hr, ← e2] at this
    have e3 : ([92, 40] ++ w ++ [92, 41, 92, 123] : List UInt8).length = w.length + 6 := by simp
    rw [e3] at this
    rw [show 2 + w.length + 2 + 2 = w.length + 6 + 0 by omega, this, hll]
    rfl
  have s3 : stepT l (σc (2 + w.length + 2) [itGrp 1 (wordI w)]) = (0, σc l.length [itRep m n (itGrp 1 (wordI w))]) := by
    unfold stepT
    rw [show (σc (2 + w.length + 2) [itGrp 1 (wordI w)]).pos = 2 + w.length + 2 from rfl, c4, if_pos rfl]
    unfold escT
    rw [show (σc (2 + w.length + 2) [itGrp 1 (wordI w)]).pos = 2 + w.length + 2 from rfl, c5, if_neg (by omega), if_neg (by decide), if_neg (by decide), if_pos rfl]
    unfold ivT
    rw [show (σc (2 + w.length + 2) [itGrp 1 (wordI w)]).pos = 2 + w.length + 2 from rfl, hiv, if_neg (by show ¬ canB [itGrp 1 (wordI w)] = false; simp [canB])]
    rfl
  have hgo : goT l 61 st0 = (0, σc l.length [itRep m n (itGrp 1 (wordI w))]) := by
    rw [goT_more (f := 60) (by show 0 < l.length; omega) s1, hgw]
    obtain ⟨f2, hf2⟩ : ∃ f2, 60 - w.length = f2 + 1 + 1 := ⟨58 - w.length, by omega⟩
    rw [hf2, goT_more (by show 2 + w.length < l.length; omega) s2, goT_more (by show 2 + w.length + 2 < l.length; omega) s3]
    exact goT_out (by show ¬ l.length < l.length; omega)
  have hsz : rowGo ((wordI w).map (·.2)) 1 = 1 + w.length := by rw [wordI_sz, rowGo_ones _ _ (by omega) (by omega)]
  have hcb := cop_bd m n ⟨hm.1, by omega⟩ ⟨hn.1, by omega⟩
  have hc6 : cop m n ≤ 6 := by unfold cop; split <;> split <;> omega
  have hpr : parseR l (goT l 61 st0) = (0, 0, 1) := by
    rw [hgo]
    refine parseR_ok (by omega) hlf rfl ?_
    show ¬ 200 < rowGo [repSz m n (1 + rowGo ((wordI w).map (·.2)) 1)] 1
    rw [hsz]
    have hx : cop m n * (1 + (1 + (w.length : Int))) ≤ 6 * 11 := Int.mul_le_mul hc6 (by omega) (by omega) (by omega)
    unfold repSz
    simp only [rowGo]
    split <;> split <;> omega
  refine ⟨by unfold parseT; rw [hpr], by unfold refT0 refR; rw [hpr, if_pos rfl, hgo]; rfl, by unfold itsT; rw [hgo]; rfl⟩
/-- so many words, one behind the other -/
def runs (s w : List UInt8) (i : Nat) : Nat → Prop
  | 0 => True
  | k + 1 => atB s w i = true ∧ runs s w (i + w.length) k
theorem atB_le {s w : List UInt8} {i : Nat} (h : atB s w i = true) : i + w.length ≤ s.length := by
  unfold atB at h
  rw [Bool.and_eq_true, decide_eq_true_eq] at h
  exact h.1
theorem runs_snoc (s w : List UInt8) : ∀ (k i : Nat), runs s w i (k + 1) ↔ runs s w i k ∧ atB s w (i + k * w.length) = true
  | 0, i => by simp [runs]
  | k + 1, i => by
    rw [runs, runs_snoc s w k (i + w.length), runs, show i + w.length + k * w.length = i + (k + 1) * w.length by rw [Nat.add_mul]; omega, and_assoc]
theorem runs_le (s w : List UInt8) : ∀ (k i : Nat), i ≤ s.length → runs s w i k → i + k * w.length ≤ s.length
  | 0, i, hi, _ => by simpa using hi
  | k + 1, i, hi, h => by
    have h1 := ((runs_snoc s w k i).1 h).2
    have := atB_le h1
    rw [Nat.add_mul, Nat.one_mul]
    omega
theorem runs_mono (s w : List UInt8) : ∀ (k j i : Nat), j ≤ k → runs s w i k → runs s w i j
  | _, 0, _, _, _ => trivial
  | 0, j + 1, _, h, _ => by omega
  | k + 1, j + 1, i, h, hr => ⟨hr.1, runs_mono s w k j (i + w.length) (by omega) hr.2⟩
theorem pow_runs (s w : List UInt8) : ∀ (k i j : Nat), i ≤ s.length → (Pow (fun x y => MtRow s ((wordI w).map (·.3)) x y) k i j ↔ runs s w i k ∧ j = i + k * w.length)
  | 0, i, j, _ => by
    constructor
    · intro h; cases h; exact ⟨trivial, by simp⟩
    · rintro ⟨_, rfl⟩; rw [Nat.zero_mul, Nat.add_zero]; exact .zero _
  | k + 1, i, j, hi => by
    constructor
    · intro h
      cases h with
      | succ h1 h2 =>
        obtain ⟨h3, rfl⟩ := (word_row s w i _ hi).1 h1
        have h4 := (atB_iff hi).2 h3
        have h5 := atB_le h4
        obtain ⟨h6, rfl⟩ := (pow_runs s w k _ j h5).1 h2
        exact ⟨⟨h4, h6⟩, by rw [Nat.add_mul]; omega⟩
    · rintro ⟨⟨h1, h2⟩, rfl⟩
      have h5 := atB_le h1
      refine .succ ((word_row s w i (i + w.length) hi).2 ⟨(atB_iff hi).1 h1, rfl⟩) ((pow_runs s w k (i + w.length) _ h5).2 ⟨h2, by rw [Nat.add_mul]; omega⟩)
theorem cnt_row (s w : List UInt8) (m n : Int) (i j : Nat) (hi : i ≤ s.length) : MtRow s ([itRep m n (itGrp 1 (wordI w))].map (·.3)) i j ↔ ∃ k : Nat, m.toNat ≤ k ∧ (n = -1 ∨ k ≤ m.toNat + (n - m).toNat) ∧ runs s w i k ∧ j = i + k * w.length := by
  have e : MtRow s ([itRep m n (itGrp 1 (wordI w))].map (·.3)) i j ↔ ∃ q, (∃ k : Nat, m.toNat ≤ k ∧ (n = -1 ∨ k ≤ m.toNat + (n - m).toNat) ∧ Pow (fun x y => MtRow s ((wordI w).map (·.3)) x y) k i q) ∧ j = q := by
    simp only [List.map_cons, List.map_nil, MtRow, Mt]
  rw [e]
  constructor
  · rintro ⟨q, ⟨k, h1, h2, h3⟩, rfl⟩
    obtain ⟨h4, h5⟩ := (pow_runs s w k i j hi).1 h3
    exact ⟨k, h1, h2, h4, h5⟩
  · rintro ⟨k, h1, h2, h3, h4⟩
    exact ⟨j, ⟨k, h1, h2, (pow_runs s w k i j hi).2 ⟨h3, h4⟩⟩, rfl⟩
end Go.Proofs.YtldiemjlpnachaaDoor
