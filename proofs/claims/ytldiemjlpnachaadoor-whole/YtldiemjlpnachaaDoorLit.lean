import Derived.Test.YtldiemjlpnachaaDoorFound
/- A word, escaped: its reading, and where it is found. -/
namespace Go.Proofs.YtldiemjlpnachaaDoor
open Go.RowKit

def spec (c : UInt8) : Bool := c == 46 || c == 91 || c == 93 || c == 42 || c == 94 || c == 36 || c == 92
def plainL : List UInt8 → List UInt8
  | [] => []
  | c :: r => (if spec c then [92, c] else [c]) ++ plainL r
theorem plainL_app (a b : List UInt8) : plainL (a ++ b) = plainL a ++ plainL b := by
  induction a with
  | nil => rfl
  | cons c r ih => simp only [List.cons_append, plainL, ih, List.append_assoc]
/-- the items of a word -/
def wordI (w : List UInt8) : List It := w.map (fun c => itOne (addS noS c.toNat))
/-- a reader that has got through words -/
def wst (its : List It) (p : Nat) : St := { st0 with pos := p, inner := { st0.inner with items := its } }
theorem wst0 : wst [] 0 = st0 := rfl
theorem ch_at {pre r : List UInt8} {c : UInt8} : ch (pre ++ c :: r) pre.length = c.toNat := by
  unfold ch
  rw [List.getElem?_append_right (Nat.le_refl _)]
  simp
theorem ch_at1 {pre r : List UInt8} {c d : UInt8} : ch (pre ++ c :: d :: r) (pre.length + 1) = d.toNat := by
  unfold ch
  rw [List.getElem?_append_right (by omega)]
  simp
theorem spec_iff (c : UInt8) : spec c = true ↔ c.toNat ∈ [46, 91, 93, 42, 94, 36, 92] := by
  unfold spec
  have : ∀ k : UInt8, (c == k) = true ↔ c.toNat = k.toNat := fun k => by rw [beq_iff_eq]; exact UInt8.toNat_inj.symm
  simp only [Bool.or_eq_true, this]
  simp
  omega
theorem step_word1 {pre r : List UInt8} {c : UInt8} {its : List It} (hc : spec c = false) : stepT (pre ++ c :: r) (wst its pre.length) = (0, wst (its ++ [itOne (addS noS c.toNat)]) (pre.length + 1)) := by
  have hn : c.toNat ∉ [46, 91, 93, 42, 94, 36, 92] := fun h => by rw [(spec_iff c).2 h] at hc; cases hc
  simp only [List.mem_cons, List.not_mem_nil, or_false, not_or] at hn
  unfold stepT
  rw [show (wst its pre.length).pos = pre.length from rfl, ch_at, if_neg hn.2.2.2.2.2.2, if_neg hn.2.1, if_neg hn.1, if_neg (fun h => hn.2.2.2.2.1 h.1), if_neg (fun h => hn.2.2.2.2.2.1 h.1), if_neg (fun h => hn.2.2.2.1 h.1)]
  rfl
theorem step_word2 {pre r : List UInt8} {c : UInt8} {its : List It} (hc : spec c = true) : stepT (pre ++ 92 :: c :: r) (wst its pre.length) = (0, wst (its ++ [itOne (addS noS c.toNat)]) (pre.length + 2)) := by
  have hm := (spec_iff c).1 hc
  have hm' := hm
  simp only [List.mem_cons, List.not_mem_nil, or_false] at hm'
  unfold stepT
  rw [show (wst its pre.length).pos = pre.length from rfl, ch_at, if_pos (by decide)]
  unfold escT
  rw [show (wst its pre.length).pos = pre.length from rfl, ch_at1, if_neg (by simp), if_neg (by omega), if_neg (by omega), if_neg (by omega), if_neg (by omega), if_pos hm]
  rfl
theorem plainL_len : ∀ w : List UInt8, w.length ≤ (plainL w).length ∧ (plainL w).length ≤ 2 * w.length
  | [] => ⟨Nat.le_refl _, Nat.le_refl _⟩
  | c :: r => by
    obtain ⟨h1, h2⟩ := plainL_len r
    simp only [plainL, List.length_append, List.length_cons]
    split <;> simp <;> omega
/-- the reading goes through a word -/
theorem go_word (post : List UInt8) : ∀ (w pre : List UInt8) (its : List It) (f : Nat), (plainL w).length ≤ f →
    ∃ f', f ≤ f' + (plainL w).length ∧ goT (pre ++ (plainL w ++ post)) f (wst its pre.length) = goT (pre ++ (plainL w ++ post)) f' (wst (its ++ wordI w) (pre.length + (plainL w).length))
  | [], pre, its, f, _ => ⟨f, by simp [plainL], by simp [plainL, wordI]⟩
  | c :: r, pre, its, f, hf => by
    have hlen : (plainL (c :: r)).length = (if spec c then [92, c] else [c]).length + (plainL r).length := by rw [plainL, List.length_append]
    cases hc : spec c
    · have e : pre ++ (plainL (c :: r) ++ post) = (pre ++ [c]) ++ (plainL r ++ post) := by simp [plainL, hc]
      have e2 : pre ++ (plainL (c :: r) ++ post) = pre ++ c :: (plainL r ++ post) := by simp [plainL, hc]
      rw [hc] at hlen
      simp at hlen
      obtain ⟨f0, rfl⟩ : ∃ f0, f = f0 + 1 := ⟨f - 1, by omega⟩
      obtain ⟨f', h1, h2⟩ := go_word post r (pre ++ [c]) (its ++ [itOne (addS noS c.toNat)]) f0 (by omega)
      refine ⟨f', by omega, ?_⟩
      rw [goT_more (σ' := wst (its ++ [itOne (addS noS c.toNat)]) (pre.length + 1)) (by rw [e2]; show pre.length < _; simp) (by rw [e2]; exact step_word1 hc)]
      rw [← e] at h2
      rw [List.length_append, List.length_singleton] at h2
      rw [h2]
      congr 1
      · simp [wordI, wst]; omega
    · have e : pre ++ (plainL (c :: r) ++ post) = (pre ++ [92, c]) ++ (plainL r ++ post) := by simp [plainL, hc]
      have e2 : pre ++ (plainL (c :: r) ++ post) = pre ++ 92 :: c :: (plainL r ++ post) := by simp [plainL, hc]
      rw [hc] at hlen
      simp at hlen
      obtain ⟨f0, rfl⟩ : ∃ f0, f = f0 + 1 := ⟨f - 1, by omega⟩
      obtain ⟨f', h1, h2⟩ := go_word post r (pre ++ [92, c]) (its ++ [itOne (addS noS c.toNat)]) f0 (by omega)
      refine ⟨f', by omega, ?_⟩
      rw [goT_more (σ' := wst (its ++ [itOne (addS noS c.toNat)]) (pre.length + 2)) (by rw [e2]; show pre.length < _; simp) (by rw [e2]; exact step_word2 hc)]
      rw [← e] at h2
      have e3 : (pre ++ [92, c]).length = pre.length + 2 := by simp
      rw [e3] at h2
      rw [h2]
      congr 1
      · simp [wordI, wst]; omega
theorem rowGo_ones : ∀ (n : Nat) (m : Int), 0 ≤ m → m + n ≤ 200 → rowGo (List.replicate n 1) m = m + n
  | 0, m, _, _ => by simp [rowGo]
  | n + 1, m, h0, h => by
    rw [List.replicate_succ, rowGo, if_neg (by omega), rowGo_ones n (m + 1) (by omega) (by omega)]
    omega
theorem wordI_sz (w : List UInt8) : (wordI w).map (·.2) = List.replicate w.length 1 := by
  induction w with
  | nil => rfl
  | cons c r ih =>
    have : (wordI (c :: r)).map (·.2) = 1 :: (wordI r).map (·.2) := rfl
    rw [this, ih]; rfl
/-- THE READING OF A WORD, ESCAPED -/
theorem word_parse (w : List UInt8) (hl : (plainL w).length ≤ 60) (hlf : lfT (plainL w) = none) : (parseT (plainL w)).1 = 0 ∧ refT0 (plainL w) = [] ∧ itsT (plainL w) = wordI w := by
  obtain ⟨f', _, hg⟩ := go_word [] w [] [] 61 (by omega)
  simp only [List.append_nil, List.nil_append, List.length_nil, Nat.zero_add, wst0] at hg
  rw [goT_out (σ := wst (wordI w) (plainL w).length) (by show ¬ (plainL w).length < (plainL w).length; omega)] at hg
  have hw := (plainL_len w).1
  have hpr : parseR (plainL w) (goT (plainL w) 61 st0) = (0, 0, 0) := by
    rw [hg]
    refine parseR_ok (by omega) hlf rfl ?_
    show ¬ 200 < rowGo ((wordI w).map (·.2)) 1
    rw [wordI_sz, rowGo_ones _ _ (by omega) (by omega)]
    omega
  refine ⟨by unfold parseT; rw [hpr], by unfold refT0 refR; rw [hpr, if_pos rfl, hg]; rfl, by unfold itsT; rw [hg]; rfl⟩
/-- a word stands at a place -/
def stands (s : List UInt8) (i : Nat) (w : List UInt8) : Prop := (s.drop i).take w.length = w
theorem addS_no (c d : Nat) : addS noS c d = true ↔ d = c := by simp [addS, noS]
theorem word_row (s : List UInt8) : ∀ (w : List UInt8) (i j : Nat), i ≤ s.length → (MtRow s ((wordI w).map (·.3)) i j ↔ stands s i w ∧ j = i + w.length)
  | [], i, j, _ => by
    have : (wordI []).map (·.3) = [] := rfl
    rw [this]
    simp only [MtRow, stands, List.length_nil, List.take_zero, Nat.add_zero, true_and]
  | c :: r, i, j, hi => by
    have e : (wordI (c :: r)).map (·.3) = .one (addS noS c.toNat) :: (wordI r).map (·.3) := rfl
    rw [e]
    simp only [MtRow, Mt]
    constructor
    · rintro ⟨k, ⟨h1, h2, rfl⟩, h3⟩
      obtain ⟨h4, rfl⟩ := (word_row s r (i + 1) j (by omega)).1 h3
      rw [addS_no] at h2
      refine ⟨?_, by simp; omega⟩
      unfold stands at h4 ⊢
      rw [List.drop_eq_getElem_cons h1, List.length_cons, List.take_succ_cons, h4]
      congr 1
      have : ch s i = s[i].toNat := by unfold ch; rw [List.getElem?_eq_getElem h1]; rfl
      rw [this] at h2
      exact UInt8.toNat_inj.1 h2
    · rintro ⟨h1, rfl⟩
      unfold stands at h1
      have hil : i < s.length := by
        rcases Nat.lt_or_ge i s.length with h | h
        · exact h
        · rw [List.drop_eq_nil_of_le h] at h1; simp at h1
      rw [List.drop_eq_getElem_cons hil, List.length_cons, List.take_succ_cons] at h1
      injection h1 with h2 h3
      refine ⟨i + 1, ⟨hil, ?_, rfl⟩, (word_row s r (i + 1) _ (by omega)).2 ⟨h3, by simp; omega⟩⟩
      rw [addS_no]
      have : ch s i = s[i].toNat := by unfold ch; rw [List.getElem?_eq_getElem hil]; rfl
      rw [this, h2]
end Go.Proofs.YtldiemjlpnachaaDoor
