/- The plain mathematics: what the reading of a pattern comes to. Nothing of the program. -/
import Derived.WalkKit
namespace Go.Proofs.YtjgafakfpcgpjaaDoor

/-- does t stand in l at place i? -/
def sw (l : List UInt8) (i : Nat) (t : List UInt8) : Bool := (l.drop i).take t.length == t
def ch (l : List UInt8) (i : Nat) : Nat := (l[i]?.getD 0).toNat
def dig (c : Nat) : Bool := decide (48 ≤ c ∧ c ≤ 57)

theorem extract_list (s : ByteArray) (a b : Nat) : (s.extract a b).toList = (s.data.toList.drop a).take (b - a) := by
  rw [ByteArray.toList_eq]
  simp [ByteArray.data_extract, Array.toList_extract]
theorem ch_get (s : ByteArray) (i : Nat) (h : i < s.size) : (s[i]).toNat = ch s.data.toList i := by
  unfold ch
  have h' : i < s.data.toList.length := by simpa using h
  rw [List.getElem?_eq_getElem h']
  rfl
theorem len_data (s : ByteArray) : s.data.toList.length = s.size := by simp
theorem ch_lt (l : List UInt8) (i : Nat) : ch l i < 256 := by
  unfold ch
  exact UInt8.toNat_lt _
theorem sw_len (l : List UInt8) (i : Nat) (t : List UInt8) (h : l.length < i + t.length) (h0 : 0 < t.length) : sw l i t = false := by
  unfold sw
  apply beq_eq_false_iff_ne.2
  intro e
  have := congrArg List.length e
  simp at this
  omega
theorem sw_yes (s t : ByteArray) (i : Nat) : ((s.extract i (i + t.size)).toList == t.toList) = sw s.data.toList i t.data.toList := by
  rw [extract_list, ByteArray.toList_eq, sw]
  simp
theorem sw_cons (l : List UInt8) (i : Nat) (a : UInt8) (t : List UInt8) : sw l i (a :: t) = (decide (i < l.length) && (ch l i == a.toNat) && sw l (i + 1) t) := by
  by_cases h : i < l.length
  · unfold sw ch
    rw [List.drop_eq_getElem_cons h, List.getElem?_eq_getElem h]
    simp only [List.length_cons, List.take_succ_cons, h, decide_true, Bool.true_and, Option.getD_some]
    show (l[i] :: List.take t.length (List.drop (i + 1) l) == a :: t) = _
    rw [List.cons_beq_cons]
    congr 1
    rw [Bool.eq_iff_iff]
    simp [UInt8.toNat_inj]
  · rw [sw_len _ _ _ (by simp; omega) (by simp)]
    simp [h]
theorem sw_nil (l : List UInt8) (i : Nat) : sw l i [] = true := by simp [sw]
theorem sw1 (l : List UInt8) (i : Nat) (a : UInt8) : sw l i [a] = (decide (i < l.length) && (ch l i == a.toNat)) := by
  rw [sw_cons, sw_nil, Bool.and_true]
theorem sw2 (l : List UInt8) (i : Nat) (a b : UInt8) : sw l i [a, b] = (decide (i + 1 < l.length) && (ch l i == a.toNat) && (ch l (i + 1) == b.toNat)) := by
  rw [sw_cons, sw1]
  by_cases h : i + 1 < l.length
  · have h' : i < l.length := by omega
    simp [h, h']
  · simp [h]

/-- a '-' at place i, and something behind it but ']' -/
def spB (l : List UInt8) (i : Nat) : Bool := decide (i + 1 < l.length) && (ch l i == 45) && (ch l (i + 1) != 93)
/-- what looks like a class at place i -/
def nmB (l : List UInt8) (i : Nat) : Bool := decide (i + 1 < l.length) && (ch l i == 91) && ((ch l (i + 1) == 58) || (ch l (i + 1) == 46) || (ch l (i + 1) == 61))

/-- a number from place i on: fuel, what is read, the place -/
def numGo (l : List UInt8) : Nat → Nat → Nat → Option (Nat × Nat)
  | 0, n, i => some (n, i)
  | f + 1, n, i => if dig (ch l i) = true then (if 20 < n * 10 + (ch l i - 48) then none else numGo l f (n * 10 + (ch l i - 48)) (i + 1)) else some (n, i)
def num (l : List UInt8) (i : Nat) : Option (Nat × Nat) :=
  match numGo l (l.length - i) 0 i with
  | none => none
  | some (n, e) => if e = i then none else some (n, e)
theorem numGo_end {l : List UInt8} {n k : Nat} (h : l.length ≤ k) : numGo l (l.length - k) n k = some (n, k) := by
  rw [show l.length - k = 0 by omega]; rfl
theorem numGo_no {l : List UInt8} {n k : Nat} (hd : dig (ch l k) = false) : numGo l (l.length - k) n k = some (n, k) := by
  cases h : l.length - k with
  | zero => rfl
  | succ f => rw [numGo, hd]; rfl
theorem numGo_big {l : List UInt8} {n k : Nat} (hk : k < l.length) (hd : dig (ch l k) = true) (hb : 20 < n * 10 + (ch l k - 48)) : numGo l (l.length - k) n k = none := by
  rw [show l.length - k = (l.length - (k + 1)) + 1 by omega, numGo, if_pos hd, if_pos hb]
theorem numGo_more {l : List UInt8} {n k : Nat} (hk : k < l.length) (hd : dig (ch l k) = true) (hb : ¬ 20 < n * 10 + (ch l k - 48)) : numGo l (l.length - k) n k = numGo l (l.length - (k + 1)) (n * 10 + (ch l k - 48)) (k + 1) := by
  rw [show l.length - k = (l.length - (k + 1)) + 1 by omega, numGo, if_pos hd, if_neg hb]

theorem numGo_bd (l : List UInt8) : ∀ f n k m e, n ≤ 20 → numGo l f n k = some (m, e) → m ≤ 20 ∧ k ≤ e ∧ e ≤ k + f
  | 0, n, k, m, e, hn, h => by
    rw [numGo] at h; cases h; exact ⟨hn, Nat.le_refl _, by omega⟩
  | f + 1, n, k, m, e, hn, h => by
    rw [numGo] at h
    split at h
    · split at h
      · cases h
      · have := numGo_bd l f _ (k + 1) m e (by omega) h
        omega
    · cases h; exact ⟨hn, Nat.le_refl _, by omega⟩
theorem num_bd {l : List UInt8} {i n e : Nat} (h : num l i = some (n, e)) : n ≤ 20 ∧ i < e ∧ e ≤ l.length := by
  unfold num at h
  split at h
  · cases h
  · rename_i m k hk
    split at h
    · cases h
    · cases h
      have := numGo_bd l _ _ _ _ _ (by omega) hk
      omega

/-- an interval behind its opening: least, most (-1: none), the place behind -/
def ivl (l : List UInt8) (i : Nat) : Option (Int × Int × Nat) :=
  match num l i with
  | none => none
  | some (m, j) =>
    if sw l j [44, 92, 125] = true then some (m, -1, j + 3)
    else if sw l j [44] = true then
      match num l (j + 1) with
      | none => none
      | some (n, k) => if n < m then none else if sw l k [92, 125] = true then some (m, n, k + 2) else none
    else if sw l j [92, 125] = true then some (m, m, j + 2) else none

theorem nmB_out {s : ByteArray} {n : Nat} (h : ¬ n + 1 < s.size) : nmB s.data.toList n = false := by
  unfold nmB; rw [len_data]; simp [h]
theorem nmB_in {s : ByteArray} {n : Nat} (h : n + 1 < s.size) : nmB s.data.toList n = (((s[n].toNat : Int) == 91) && (((s[n + 1].toNat : Int) == 58) || ((s[n + 1].toNat : Int) == 46) || ((s[n + 1].toNat : Int) == 61))) := by
  unfold nmB
  rw [len_data, ← ch_get s n (by omega), ← ch_get s (n + 1) h, Bool.eq_iff_iff]
  simp [h]
  omega
theorem spB_out {s : ByteArray} {n : Nat} (h : ¬ n + 1 < s.size) : spB s.data.toList n = false := by
  unfold spB; rw [len_data]; simp [h]
theorem spB_in {s : ByteArray} {n : Nat} (h : n + 1 < s.size) : spB s.data.toList n = (((s[n].toNat : Int) == 45) && ((s[n + 1].toNat : Int) != 93)) := by
  unfold spB
  rw [len_data, ← ch_get s n (by omega), ← ch_get s (n + 1) h, Bool.eq_iff_iff]
  simp [h]
  omega
theorem num_of {l : List UInt8} {i n e : Nat} (h : numGo l (l.length - i) 0 i = some (n, e)) : num l i = if e = i then none else some (n, e) := by
  unfold num; rw [h]
theorem num_none {l : List UInt8} {i : Nat} (h : numGo l (l.length - i) 0 i = none) : num l i = none := by
  unfold num; rw [h]
/-- the classes' names, with their brackets -/
def clsNames : List (List UInt8) := [[91, 58, 97, 108, 112, 104, 97, 58, 93], [91, 58, 100, 105, 103, 105, 116, 58, 93], [91, 58, 97, 108, 110, 117, 109, 58, 93], [91, 58, 117, 112, 112, 101, 114, 58, 93], [91, 58, 108, 111, 119, 101, 114, 58, 93], [91, 58, 115, 112, 97, 99, 101, 58, 93]]
def clsGo (l : List UInt8) (p : Nat) : List (List UInt8) → Option Nat
  | [] => none
  | t :: r => if sw l p t = true then some t.length else clsGo l p r
def endB (l : List UInt8) (q : Nat) : Bool := decide (l.length ≤ q) || (ch l q == 93)
/-- one member of a bracket: the error, the place behind (or of the error), whether it was a class -/
def mstep (l : List UInt8) (p : Nat) (bc : Bool) : Nat × Nat × Bool :=
  if nmB l p = true then
    match clsGo l p clsNames with
    | some k => (0, p + k, true)
    | none => (5, p, bc)
  else if (bc && (ch l p == 45) && !endB l (p + 1)) = true then (6, p, bc)
  else if (sw l (p + 1) [45] && !endB l (p + 2)) = true then
    if (decide (l.length ≤ p + 2) || decide (ch l (p + 2) < ch l p) || nmB l (p + 2)) = true then (6, p, false) else (0, p + 3, false)
  else (0, p + 1, false)
theorem endB_out {s : ByteArray} {n : Nat} (h : ¬ n < s.size) : endB s.data.toList n = true := by
  unfold endB; rw [len_data]; simp; omega
theorem endB_in {s : ByteArray} {n : Nat} (h : n < s.size) : endB s.data.toList n = ((s[n].toNat : Int) == 93) := by
  unfold endB
  rw [len_data, ← ch_get s n h, Bool.eq_iff_iff]
  simp
  omega
theorem clsGo_bd (l : List UInt8) (p : Nat) : ∀ ns k, (∀ t ∈ ns, 0 < t.length) → clsGo l p ns = some k → p + k ≤ l.length ∧ 0 < k
  | [], _, _, h => by cases h
  | t :: r, k, hn, h => by
    rw [clsGo] at h
    split at h
    · rename_i hs
      have ht := hn t (by simp)
      cases h
      refine ⟨?_, ht⟩
      rcases Nat.lt_or_ge l.length (p + t.length) with hlt | hge
      · rw [sw_len l p t hlt ht] at hs; cases hs
      · exact hge
    · exact clsGo_bd l p r k (fun t ht => hn t (by simp [ht])) h
theorem cls_bd {l : List UInt8} {p k : Nat} (h : clsGo l p clsNames = some k) : p + k ≤ l.length ∧ 0 < k := clsGo_bd l p _ k (by decide) h
/-- a bracket from place p on (its first member at 'first'): the error and its place; 0 and the place behind -/
def brkGo (l : List UInt8) (start first : Nat) : Nat → Nat → Bool → Nat × Nat
  | 0, _, _ => (4, start)
  | f + 1, p, bc =>
    if p < l.length then
      if ((ch l p == 93) && decide (first < p)) = true then (0, p + 1)
      else if (mstep l p bc).1 = 0 then brkGo l start first f (mstep l p bc).2.1 (mstep l p bc).2.2
      else ((mstep l p bc).1, (mstep l p bc).2.1)
    else (4, start)
def brkFirst (l : List UInt8) (start : Nat) : Nat := if sw l (start + 1) [94] = true then start + 2 else start + 1
def brk (l : List UInt8) (start : Nat) : Nat × Nat := brkGo l start (brkFirst l start) 61 (brkFirst l start) false
theorem brkGo_out {l : List UInt8} {start first f p : Nat} {bc : Bool} (h : ¬ p < l.length) : brkGo l start first f p bc = (4, start) := by
  cases f with
  | zero => rfl
  | succ f => rw [brkGo, if_neg h]
theorem brkGo_shut {l : List UInt8} {start first f p : Nat} {bc : Bool} (h : p < l.length) (h1 : ch l p = 93) (h2 : first < p) : brkGo l start first (f + 1) p bc = (0, p + 1) := by
  rw [brkGo, if_pos h, if_pos (by simp [h1, h2])]
theorem brkGo_err {l : List UInt8} {start first f p e p1 : Nat} {bc b1 : Bool} (h : p < l.length) (h1 : ((ch l p == 93) && decide (first < p)) = false) (hm : mstep l p bc = (e, p1, b1)) (he : e ≠ 0) : brkGo l start first (f + 1) p bc = (e, p1) := by
  rw [brkGo, if_pos h, if_neg (by simp [h1]), hm, if_neg he]
theorem brkGo_more {l : List UInt8} {start first f p p1 : Nat} {bc b1 : Bool} (h : p < l.length) (h1 : ((ch l p == 93) && decide (first < p)) = false) (hm : mstep l p bc = (0, p1, b1)) : brkGo l start first (f + 1) p bc = brkGo l start first f p1 b1 := by
  rw [brkGo, if_pos h, if_neg (by simp [h1]), hm, if_pos rfl]
theorem mstep_bd {l : List UInt8} {p e p1 : Nat} {bc b1 : Bool} (hp : p < l.length) (h : mstep l p bc = (e, p1, b1)) : e ≤ 6 ∧ p1 ≤ l.length ∧ p ≤ p1 ∧ (e = 0 → p < p1) ∧ (e ≠ 0 → p1 = p ∧ (e = 5 ∨ e = 6)) := by
  unfold mstep at h
  split at h
  · cases hc : clsGo l p clsNames with
    | none => rw [hc] at h; simp at h; omega
    | some k =>
      have := cls_bd hc
      rw [hc] at h; simp at h; omega
  · split at h
    · simp at h; omega
    · split at h
      · rename_i hsw
        have : p + 2 < l.length := by
          simp [endB] at hsw
          omega
        split at h <;> (simp at h; omega)
      · simp at h; omega
end Go.Proofs.YtjgafakfpcgpjaaDoor
