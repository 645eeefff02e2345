import Derived.Test.YtldiemjlpnachabDoorOm
import Derived.Lib.ItoaMem
/- What the lines of an answer with numbers are. -/
namespace Go.Proofs.YtldiemjlpnachabDoor
open Go.RowKit

def valD (l : List UInt8) : Nat := l.foldl (fun a c => a * 10 + (c.toNat - 48)) 0
theorem valD_snoc (l : List UInt8) (c : UInt8) : valD (l ++ [c]) = valD l * 10 + (c.toNat - 48) := by unfold valD; simp
theorem dig8 (r : Nat) (h : r < 10) : (UInt8.ofNat (48 + r)).toNat = 48 + r := by rw [UInt8.toNat_ofNat', Nat.mod_eq_of_lt (by omega)]
theorem valD_dec (n : Nat) : valD (Lib.decDigits n) = n := by
  induction n using Nat.strongRecOn with
  | _ n ih =>
  rw [Lib.decDigits]
  split
  · rename_i h
    show 0 * 10 + ((UInt8.ofNat (48 + n)).toNat - 48) = n
    rw [dig8 n h]
    omega
  · rw [valD_snoc, ih (n / 10) (by omega), dig8 _ (by omega)]
    omega
theorem dec_inj {a b : Nat} (h : Lib.decDigits a = Lib.decDigits b) : a = b := by
  have := congrArg valD h
  rwa [valD_dec, valD_dec] at this
theorem dec_dig (n : Nat) : ∀ c ∈ Lib.decDigits n, 48 ≤ c.toNat ∧ c.toNat ≤ 57 := by
  induction n using Nat.strongRecOn with
  | _ n ih =>
  intro c hc
  rw [Lib.decDigits] at hc
  split at hc
  · rename_i h
    rw [List.mem_singleton] at hc
    rw [hc, dig8 n h]
    omega
  · rcases List.mem_append.1 hc with h | h
    · exact ih (n / 10) (by omega) c h
    · rw [List.mem_singleton] at h
      rw [h, dig8 _ (by omega)]
      omega
theorem dec_no {n : Nat} {c : UInt8} (h : c.toNat < 48 ∨ 57 < c.toNat) : c ∉ Lib.decDigits n := fun hc => by
  have := dec_dig n c hc
  omega
theorem split_inj {x : UInt8} : ∀ {A A' B B' : List UInt8}, x ∉ A → x ∉ A' → A ++ x :: B = A' ++ x :: B' → A = A'
  | [], [], _, _, _, _, _ => rfl
  | [], a :: A', _, _, _, h2, h => by
    have := (List.cons.inj h).1
    exact absurd (by rw [this]; exact List.mem_cons_self) h2
  | a :: A, [], _, _, h1, _, h => by
    have := (List.cons.inj h).1
    exact absurd (by rw [← this]; exact List.mem_cons_self) h1
  | a :: A, a' :: A', _, _, h1, h2, h => by
    obtain ⟨e1, e2⟩ := List.cons.inj h
    rw [e1, split_inj (fun hh => h1 (List.mem_cons_of_mem _ hh)) (fun hh => h2 (List.mem_cons_of_mem _ hh)) e2]
/-- the chosen lines, each behind its number -/
def zn (p : List UInt8) : Nat → List (List UInt8) → List (List UInt8)
  | _, [] => []
  | k, s :: ls => if (findE p s 0).isSome = true then (Lib.decDigits (k + 1) ++ 58 :: s) :: zn p (k + 1) ls else zn p (k + 1) ls
theorem zn_app (p : List UInt8) : ∀ (a b : List (List UInt8)) (k : Nat), zn p k (a ++ b) = zn p k a ++ zn p (k + a.length) b
  | [], b, k => rfl
  | s :: a, b, k => by
    rw [List.cons_append, zn, zn, zn_app p a b (k + 1), List.length_cons, show k + 1 + a.length = k + (a.length + 1) by omega]
    split <;> simp
theorem zn_len (p : List UInt8) : ∀ (ls : List (List UInt8)) (k : Nat), (zn p k ls).length = (chosen p false ls).length
  | [], k => rfl
  | s :: ls, k => by
    rw [zn]
    unfold chosen
    rw [List.filter_cons]
    have ih := zn_len p ls (k + 1)
    unfold chosen at ih
    by_cases h : (findE p s 0).isSome = true
    · rw [if_pos h, if_pos (by rw [h]; rfl), List.length_cons, List.length_cons, ih]
    · rw [if_neg h, if_neg (by simp at h ⊢; exact h), ih]
theorem zn_mem (p : List UInt8) : ∀ (ls : List (List UInt8)) (k : Nat), ∀ z ∈ zn p k ls, ∃ m s, k ≤ m ∧ m < k + ls.length ∧ s ∈ ls ∧ z = Lib.decDigits (m + 1) ++ 58 :: s
  | [], k, z, h => by cases h
  | s :: ls, k, z, h => by
    rw [zn] at h
    have ih := fun h' => zn_mem p ls (k + 1) z h'
    split at h
    · rcases List.mem_cons.1 h with rfl | h
      · exact ⟨k, s, Nat.le_refl _, by simp, List.mem_cons_self, rfl⟩
      · obtain ⟨m, s', h1, h2, h3, h4⟩ := ih h
        exact ⟨m, s', by omega, by simp; omega, List.mem_cons_of_mem _ h3, h4⟩
    · obtain ⟨m, s', h1, h2, h3, h4⟩ := ih h
      exact ⟨m, s', by omega, by simp; omega, List.mem_cons_of_mem _ h3, h4⟩
theorem out_num (p : List UInt8) : ∀ (ls : List (List UInt8)) (σ : Sg), (runG p ⟨false, false, false, true⟩ σ ls).out = σ.out ++ (zn p σ.num ls).flatMap fun s => s ++ [10]
  | [], σ => by simp [runG, zn]
  | s :: ls, σ => by
    rw [runG_cons, out_num p ls, zn]
    unfold stepG
    have e : lineCh p ⟨false, false, false, true⟩ s = (findE p s 0).isSome := by unfold lineCh; simp
    rw [e]
    by_cases h : (findE p s 0).isSome = true
    · rw [if_pos h, if_pos h, List.flatMap_cons, ← List.append_assoc]
      congr 1
      simp [lineOut, fmtL, ← Lib.itoa_nonneg]
    · rw [if_neg h, if_neg h]
/-- the statement's lines beside the program's -/
def LK (a s : List UInt8) : Prop := 10 ∉ s ∧ (a = s ++ [10] ∨ (a = s ∧ s ≠ []))
theorem lines_rel : ∀ (t cur : List UInt8), 10 ∉ cur → (linesK cur t).length = (linesG cur t).length ∧ ∀ (k : Nat) (a s : List UInt8), (linesK cur t)[k]? = some a → (linesG cur t)[k]? = some s → LK a s
  | [], cur, hc => by
    rw [linesK, linesG]
    by_cases h : cur = []
    · rw [if_pos h]
      exact ⟨rfl, fun k a s h1 => by simp at h1⟩
    · rw [if_neg h]
      refine ⟨rfl, fun k a s h1 h2 => ?_⟩
      cases k with
      | zero => simp at h1 h2; subst h1 h2; exact ⟨hc, .inr ⟨rfl, h⟩⟩
      | succ k => simp at h1
  | c :: r, cur, hc => by
    rw [linesK, linesG]
    by_cases h : c = 10
    · rw [if_pos h, if_pos h]
      have ih := lines_rel r [] (by simp)
      refine ⟨by rw [List.length_cons, List.length_cons, ih.1], fun k a s h1 h2 => ?_⟩
      cases k with
      | zero => simp at h1 h2; subst h1 h2; exact ⟨hc, .inl (by rw [h])⟩
      | succ k => exact ih.2 k a s (by simpa using h1) (by simpa using h2)
    · rw [if_neg h, if_neg h]
      exact lines_rel r (cur ++ [c]) (by simp [hc]; exact fun e => h e.symm)
theorem filter_at {α : Type} (f : α → Bool) {ls : List α} {k : Nat} (hk : k < ls.length) (h : f ls[k] = true) : (ls.filter f)[((ls.take k).filter f).length]? = some ls[k] := by
  have e : ls.filter f = (ls.take k).filter f ++ (ls.drop k).filter f := by rw [← List.filter_append, List.take_append_drop]
  rw [e, List.getElem?_append_right (Nat.le_refl _), Nat.sub_self, List.drop_eq_getElem_cons hk, List.filter_cons_of_pos h]
  rfl
theorem filter_snoc {α : Type} (f : α → Bool) {ls : List α} {k : Nat} (hk : k < ls.length) : ((ls.take (k + 1)).filter f).length = ((ls.take k).filter f).length + (if f ls[k] = true then 1 else 0) := by
  rw [List.take_succ_eq_append_getElem hk, List.filter_append, List.length_append]
  congr 1
  rw [List.filter_cons]
  split <;> simp
/-- at a chosen line: the next of the numbered lines is this one -/
theorem zn_at (p : List UInt8) {ls : List (List UInt8)} {k : Nat} (hk : k < ls.length) (h : (findE p ls[k] 0).isSome = true) : (zn p 0 ls)[(chosen p false (ls.take k)).length]? = some (Lib.decDigits (k + 1) ++ 58 :: ls[k]) := by
  have e : zn p 0 ls = zn p 0 (ls.take k) ++ zn p k (ls.drop k) := by
    have := zn_app p (ls.take k) (ls.drop k) 0
    rw [List.take_append_drop, Nat.zero_add, List.length_take, Nat.min_eq_left (Nat.le_of_lt hk)] at this
    exact this
  rw [e, List.getElem?_append_right (by rw [zn_len]; exact Nat.le_refl _), zn_len, Nat.sub_self, List.drop_eq_getElem_cons hk, zn, if_pos h]
  rfl
/-- at a line that is not chosen: the next of the numbered lines is another one -/
theorem zn_not (p : List UInt8) {ls : List (List UInt8)} {k : Nat} (hk : k < ls.length) (h : ¬ (findE p ls[k] 0).isSome = true) (z : List UInt8) (hz : (zn p 0 ls)[(chosen p false (ls.take k)).length]? = some z) (s : List UInt8) : z ≠ Lib.decDigits (k + 1) ++ 58 :: s := by
  have e : zn p 0 ls = zn p 0 (ls.take k) ++ zn p k (ls.drop k) := by
    have := zn_app p (ls.take k) (ls.drop k) 0
    rw [List.take_append_drop, Nat.zero_add, List.length_take, Nat.min_eq_left (Nat.le_of_lt hk)] at this
    exact this
  rw [e, List.getElem?_append_right (by rw [zn_len]; exact Nat.le_refl _), zn_len, Nat.sub_self, List.drop_eq_getElem_cons hk, zn, if_neg h] at hz
  obtain ⟨m, s', h1, _, _, h4⟩ := zn_mem p _ _ z (List.mem_of_getElem? hz)
  intro he
  rw [h4] at he
  have := dec_inj (split_inj (dec_no (by decide)) (dec_no (by decide)) he)
  omega
end Go.Proofs.YtldiemjlpnachabDoor
