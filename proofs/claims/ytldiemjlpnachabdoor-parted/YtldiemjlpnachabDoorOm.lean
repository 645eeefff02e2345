import Derived.Test.YtldiemjlpnachabDoorAl
/- What the lines of an answer are. -/
namespace Go.Proofs.YtldiemjlpnachabDoor
open Go.RowKit

def chosen (p : List UInt8) (iv : Bool) (ls : List (List UInt8)) : List (List UInt8) := ls.filter fun s => (findE p s 0).isSome != iv
/-- the matches of a line, one behind the other -/
def outs (s : List UInt8) (L : List (Nat × Nat)) : List UInt8 := L.flatMap fun z => cut s z ++ [10]
def allL (p s : List UInt8) : List (Nat × Nat) := allE p s (s.length + 1) 0
theorem runG_cons (p : List UInt8) (o : Opt) (σ : Sg) (s : List UInt8) (ls : List (List UInt8)) : runG p o σ (s :: ls) = runG p o (stepG p o σ s) ls := rfl
theorem chosen_cons (p : List UInt8) (o : Opt) (s : List UInt8) (ls : List (List UInt8)) : chosen p o.invert (s :: ls) = if lineCh p o s = true then s :: chosen p o.invert ls else chosen p o.invert ls := by
  unfold chosen lineCh
  rw [List.filter_cons]
theorem runG_ch (p : List UInt8) (o : Opt) : ∀ (ls : List (List UInt8)) (σ : Sg), (runG p o σ ls).ch = σ.ch + (chosen p o.invert ls).length
  | [], σ => by simp [runG, chosen]
  | s :: ls, σ => by
    rw [runG_cons, runG_ch p o ls, chosen_cons]
    unfold stepG
    by_cases h : lineCh p o s = true
    · rw [if_pos h, if_pos h, List.length_cons]
      show σ.ch + 1 + _ = _
      omega
    · rw [if_neg h, if_neg h]
theorem runG_out (p : List UInt8) (o : Opt) (F : List UInt8 → List UInt8) (hF : ∀ s num, lineOut p o num s = F s) : ∀ (ls : List (List UInt8)) (σ : Sg), (runG p o σ ls).out = σ.out ++ (chosen p o.invert ls).flatMap F
  | [], σ => by simp [runG, chosen]
  | s :: ls, σ => by
    rw [runG_cons, runG_out p o F hF ls, chosen_cons]
    unfold stepG
    by_cases h : lineCh p o s = true
    · rw [if_pos h, if_pos h, List.flatMap_cons, ← List.append_assoc, ← hF s (σ.num + 1)]
    · rw [if_neg h, if_neg h]
theorem out_plain (p : List UInt8) (iv : Bool) (ls : List (List UInt8)) (σ : Sg) : (runG p ⟨false, iv, false, false⟩ σ ls).out = σ.out ++ (chosen p iv ls).flatMap fun s => s ++ [10] :=
  runG_out p ⟨false, iv, false, false⟩ (fun s => s ++ [10]) (fun s num => by simp [lineOut, fmtL]) ls σ
theorem out_only (p : List UInt8) (ls : List (List UInt8)) (σ : Sg) : (runG p ⟨true, false, false, false⟩ σ ls).out = σ.out ++ (chosen p false ls).flatMap fun s => outs s (allL p s) :=
  runG_out p ⟨true, false, false, false⟩ (fun s => outs s (allL p s)) (fun s num => by simp [lineOut, fmtL, outM, outs, allL]) ls σ
theorem linesG_no : ∀ (t cur : List UInt8), 10 ∉ cur → ∀ s ∈ linesG cur t, 10 ∉ s ∧ s.length ≤ cur.length + t.length
  | [], cur, hc, s, h => by
    rw [linesG] at h
    split at h
    · cases h
    · rw [List.mem_singleton] at h
      subst h
      exact ⟨hc, by simp⟩
  | c :: r, cur, hc, s, h => by
    rw [linesG] at h
    split at h
    · rcases List.mem_cons.1 h with rfl | h
      · exact ⟨hc, by omega⟩
      · have := linesG_no r [] (by simp) s h
        exact ⟨this.1, by have := this.2; simp at this ⊢; omega⟩
    · have := linesG_no r (cur ++ [c]) (by simp [hc]; rename_i h10; exact fun e => h10 e.symm) s h
      exact ⟨this.1, by have := this.2; simp at this ⊢; omega⟩
theorem chosen_no {p : List UInt8} {iv : Bool} {t s : List UInt8} (h : s ∈ chosen p iv (linesG [] t)) : 10 ∉ s ∧ s.length ≤ t.length := by
  have := linesG_no t [] (by simp) s (List.mem_filter.1 h).1
  simpa using this
theorem linesK_one : ∀ (s cur r : List UInt8), 10 ∉ s → linesK cur (s ++ 10 :: r) = (cur ++ s ++ [10]) :: linesK [] r
  | [], cur, r, _ => by rw [List.nil_append, linesK, if_pos rfl]; simp
  | c :: s, cur, r, h => by
    simp only [List.mem_cons, not_or] at h
    rw [List.cons_append, linesK, if_neg (fun e => h.1 e.symm), linesK_one s _ r h.2]
    simp
theorem linesK_flat : ∀ (ls : List (List UInt8)), (∀ s ∈ ls, 10 ∉ s) → linesK [] (ls.flatMap fun s => s ++ [10]) = ls.map fun s => s ++ [10]
  | [], _ => rfl
  | s :: ls, h => by
    rw [List.flatMap_cons, List.append_assoc]
    show linesK [] (s ++ 10 :: ls.flatMap fun s => s ++ [10]) = _
    rw [linesK_one s [] _ (h s List.mem_cons_self), linesK_flat ls (fun x hx => h x (List.mem_cons_of_mem _ hx))]
    simp
/-- the matches are apart, each is found where it begins, none is empty -/
def okA (p s : List UInt8) : Nat → List (Nat × Nat) → Prop
  | _, [] => True
  | last, z :: r => last ≤ z.1 ∧ z.1 < z.2 ∧ z.2 ≤ s.length ∧ findE p s z.1 = some z ∧ okA p s z.2 r
theorem find_self {p s : List UInt8} (hok : (parseT p).1 = 0) {fr i j : Nat} (hf : fr ≤ s.length) (h : findE p s fr = some (i, j)) : findE p s i = some (i, j) := by
  have h1 := findE_ok (s := s) hok hf
  rw [h] at h1
  obtain ⟨g1, g2, g3, g4⟩ := h1.1 rfl
  have h2 : Best s.length (Fm p s) i true i j := ⟨fun _ => ⟨Nat.le_refl _, g2, g3, fun x y k1 k2 k3 => g4 x y (by omega) k2 k3⟩, fun h => by cases h⟩
  have h3 := findE_ok (s := s) hok (fr := i) g2
  cases he : findE p s i with
  | none =>
    rw [he] at h3
    have := (h2.uniq h3).1
    cases this
  | some z =>
    rw [he] at h3
    obtain ⟨_, e1, e2⟩ := h2.uniq h3
    rw [e1, e2]
theorem okA_mono {p s : List UInt8} {a b : Nat} (hab : a ≤ b) : ∀ {L : List (Nat × Nat)}, okA p s b L → okA p s a L
  | [], _ => trivial
  | _ :: _, h => ⟨Nat.le_trans hab h.1, h.2⟩
theorem allE_ok {p s : List UInt8} (hok : (parseT p).1 = 0) : ∀ (f fr : Nat), okA p s fr (allE p s f fr)
  | 0, fr => trivial
  | f + 1, fr => by
    rw [allE]
    split
    · rename_i hfr
      split
      · trivial
      · rename_i i j he
        have hin := findE_in hok hfr he
        split
        · rename_i hij
          exact ⟨hin.1, hij, hin.2.2, find_self hok hfr he, allE_ok hok f j⟩
        · exact okA_mono (by omega) (allE_ok hok f (i + 1))
    · trivial
theorem outs_snoc (s : List UInt8) (L : List (Nat × Nat)) (z : Nat × Nat) : outs s (L ++ [z]) = outs s L ++ (cut s z ++ [10]) := by unfold outs; simp
end Go.Proofs.YtldiemjlpnachabDoor
