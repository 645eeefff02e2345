import Derived.Test.YtknckgibfbboaaaDoorFr
import Derived.Test.YtknckgibfbboaaaDoorSize
import Derived.OwnWalk
import Derived.OneCell
import Derived.Deep.MidRow
/- Worlds: rows that the call owns, written in place; what is left alone. -/
namespace Go.Proofs.YtknckgibfbboaaaDoor
open Go.RowKit

theorem setCell_shape {w : World} {g : Nat} {cur : Array Value} {e : TypeId} {fr : Nat × Nat} (h : w.heap[g]? = some (.cells cur e fr)) (b o : Nat) (v : Value) :
    ∃ cur', (w.setCell ⟨b, o, none⟩ v).heap[g]? = some (.cells cur' e fr) ∧ cur'.size = cur.size := by
  by_cases hb : b = g
  · subst hb
    refine ⟨cur.setIfInBounds o v, ?_, by simp⟩
    simp [World.setCell, Array.getElem?_modify, h]
  · exact ⟨cur, by rw [Below.heap_setCell _ _ _ _ (fun e => hb e.symm)]; exact h, rfl⟩
theorem setCells_shape (b : Nat) : ∀ (vs : List Value) (o : Nat) (w : World) (g : Nat) (cur : Array Value) (e : TypeId) (fr : Nat × Nat), w.heap[g]? = some (.cells cur e fr) → ∃ cur', (w.setCells b o vs).heap[g]? = some (.cells cur' e fr) ∧ cur'.size = cur.size
  | [], _, w, g, cur, e, fr, h => ⟨cur, h, rfl⟩
  | v :: r, o, w, g, cur, e, fr, h => by
    obtain ⟨c1, h1, s1⟩ := setCell_shape h b o v
    obtain ⟨c2, h2, s2⟩ := setCells_shape b r (o + 1) _ g c1 e fr h1
    exact ⟨c2, h2, s2.trans s1⟩
/-- what a row that is owned looks like, by its cells -/
theorem owns_cells {w : World} {base e size g n cap : Nat} {xs : List Value} (h : w.ownsRow base e size (.slice (some ⟨g, 0, none⟩) n cap) n xs) :
    ∃ cur, base ≤ g ∧ w.heap[g]? = some (.cells cur e (0, 0)) ∧ n ≤ cap ∧ cap ≤ maxLen ∧ cur.size = cap * size ∧ xs.length = n * size ∧ cur.toList.take (n * size) = xs := by
  rcases h.2 with ⟨h0, _⟩ | ⟨g', cap', cur, hv, hb, hg, h1, h2, h3, h4⟩
  · simp at h0
  · simp at hv
    obtain ⟨rfl, rfl⟩ := hv
    exact ⟨cur, hb, hg, h1, h2, h3, h.1, h4⟩
theorem owns_of_cells {w : World} {base e size g n cap : Nat} {xs : List Value} {cur : Array Value} (hb : base ≤ g) (hg : w.heap[g]? = some (.cells cur e (0, 0))) (h1 : n ≤ cap) (h2 : cap ≤ maxLen) (h3 : cur.size = cap * size) (hx : xs.length = n * size)
    (hc : ∀ j v, xs[j]? = some v → w.cell? ⟨g, j, none⟩ = some v) : w.ownsRow base e size (.slice (some ⟨g, 0, none⟩) n cap) n xs := by
  refine ⟨hx, .inr ⟨g, cap, cur, rfl, hb, hg, h1, h2, h3, ?_⟩⟩
  have hle : n * size ≤ cap * size := Nat.mul_le_mul_right _ h1
  apply List.ext_getElem?
  intro j
  rcases Nat.lt_or_ge j (n * size) with hj | hj
  · obtain ⟨v, hv⟩ : ∃ v, xs[j]? = some v := ⟨xs[j], List.getElem?_eq_getElem (by omega)⟩
    have := hc j v hv
    rw [cell_of_row w g j cur e (0, 0) hg] at this
    rw [hv, List.getElem?_take_of_lt hj]
    simpa using this
  · rw [List.getElem?_eq_none (l := xs) (by omega), List.getElem?_eq_none (by rw [List.length_take]; omega)]
theorem owns_cell {w : World} {base e size g n cap : Nat} {xs : List Value} (h : w.ownsRow base e size (.slice (some ⟨g, 0, none⟩) n cap) n xs) (j : Nat) (v : Value) (hv : xs[j]? = some v) : w.cell? ⟨g, j, none⟩ = some v := by
  obtain ⟨cur, _, hg, _, _, _, hl, ht⟩ := owns_cells h
  have hj : j < n * size := by have := (List.getElem?_eq_some_iff.1 hv).1; omega
  rw [cell_of_row w g j cur e (0, 0) hg]
  rw [← ht, List.getElem?_take_of_lt hj] at hv
  simpa using hv
/-- one element of an owned row is written anew -/
theorem owns_store {w : World} {base e size g n cap k : Nat} {ps bs zs cs : List Value} (h : w.ownsRow base e size (.slice (some ⟨g, 0, none⟩) n cap) n (ps ++ zs ++ bs)) (ha : ps.length = k) (hz : zs.length = cs.length) :
    (w.setCells g k cs).ownsRow base e size (.slice (some ⟨g, 0, none⟩) n cap) n (ps ++ cs ++ bs) := by
  obtain ⟨cur, hb, hg, h1, h2, h3, hl, _⟩ := owns_cells h
  obtain ⟨cur', hg', hs'⟩ := setCells_shape g cs k w g cur e (0, 0) hg
  have hle : n * size ≤ cap * size := Nat.mul_le_mul_right _ h1
  refine owns_of_cells hb hg' h1 h2 (hs'.trans h3) (by simp at hl ⊢; omega) ?_
  intro j v hv
  by_cases hin : k ≤ j ∧ j < k + cs.length
  · have hsome : ∀ i, i < cs.length → (w.cell? ⟨g, k + i, none⟩).isSome = true := by
      intro i hi
      rw [cell_of_row w g (k + i) cur e (0, 0) hg]
      simp at hl ⊢
      omega
    have := World.cell?_setCells_in g cs k w hsome (j - k) (by omega)
    rw [show k + (j - k) = j by omega] at this
    rw [this]
    rw [List.append_assoc, List.getElem?_append_right (by omega), List.getElem?_append_left (by omega), ha, List.getElem?_eq_getElem (by omega)] at hv
    exact hv
  · rw [World.cell?_setCells_out g cs k w ⟨g, j, none⟩ (fun _ _ => by show j < k ∨ k + cs.length ≤ j; omega)]
    refine owns_cell h j v ?_
    rcases Nat.lt_or_ge j k with hj | hj
    · rw [List.append_assoc, List.getElem?_append_left (by omega)] at hv ⊢
      exact hv
    · rw [List.getElem?_append_right (by simp; omega)] at hv ⊢
      simp at hv ⊢
      rw [ha, hz] at *
      exact hv
theorem owns_setCells_other {base e size : Nat} {v : Value} {n : Nat} {xs : List Value} (b : Nat) (hb : v.ownBlock ≠ some b) : ∀ (vs : List Value) (o : Nat) (w : World), w.ownsRow base e size v n xs → (w.setCells b o vs).ownsRow base e size v n xs
  | [], _, _, h => h
  | u :: r, o, _, h => owns_setCells_other b hb r (o + 1) _ (ownsRow_setCell_other h hb u)

/-- w' is w but for block R's cells at the places of 'at', one row, and new blocks -/
structure Ch (w w' : World) (R : Nat) (row : Option Nat) (pl : List Nat) : Prop where
  os : w'.os = w.os
  tape : w'.tape = w.tape
  output : w'.output = w.output
  size : w.heap.size ≤ w'.heap.size
  block : ∀ k, k < w.heap.size → k ≠ R → some k ≠ row → w'.heap[k]? = w.heap[k]?
  cell : ∀ i, i ∉ pl → w'.cell? ⟨R, i, none⟩ = w.cell? ⟨R, i, none⟩
  frozen : ∀ i, w'.frozen? ⟨R, i, none⟩ = w.frozen? ⟨R, i, none⟩
theorem Ch.refl (w : World) (R : Nat) (row : Option Nat) (pl : List Nat) : Ch w w R row pl := ⟨rfl, rfl, rfl, Nat.le_refl _, fun _ _ _ _ => rfl, fun _ _ => rfl, fun _ => rfl⟩
theorem Ch.alloc {a w : World} {R : Nat} {row : Option Nat} {pl : List Nat} (h : Ch a w R row pl) (hR : R < a.heap.size) (o : Obj) : Ch a (w.alloc o) R row pl :=
  ⟨h.os, h.tape, h.output, by simp; have := h.size; omega, fun k hk h1 h2 => by rw [Below.heap_alloc _ _ _ (by have := h.size; omega)]; exact h.block k hk h1 h2,
   fun i hi => by rw [World.cell?_alloc_lt _ _ _ (by have := h.size; show R < _; omega)]; exact h.cell i hi,
   fun i => by rw [World.frozen?_alloc_old _ _ _ (by have := h.size; show R ≠ _; omega)]; exact h.frozen i⟩
theorem Ch.drew {a w : World} {R : Nat} {row : Option Nat} {pl : List Nat} (h : Ch a w R row pl) : Ch a w.drew R row pl := ⟨h.os, h.tape, h.output, h.size, h.block, h.cell, h.frozen⟩
theorem Ch.drewN {a w : World} {R n : Nat} {row : Option Nat} {pl : List Nat} (h : Ch a w R row pl) : Ch a (w.drewN n) R row pl := ⟨h.os, h.tape, h.output, h.size, h.block, h.cell, h.frozen⟩
/-- a cell of R itself -/
theorem Ch.put {a w : World} {R : Nat} {row : Option Nat} {pl : List Nat} (h : Ch a w R row pl) (i : Nat) (hi : i ∈ pl) (v : Value) : Ch a (w.setCell ⟨R, i, none⟩ v) R row pl :=
  ⟨h.os, h.tape, h.output, by simp [World.setCell]; exact h.size, fun k hk h1 h2 => by rw [Below.heap_setCell _ _ _ _ h1]; exact h.block k hk h1 h2,
   fun j hj => by rw [World.cell?_setCell_other _ _ _ _ (by rintro e; cases e; exact hj hi)]; exact h.cell j hj, fun j => by rw [World.frozen?_setCell]; exact h.frozen j⟩
/-- a cell of the row, or of a new block -/
theorem Ch.set {a w : World} {R : Nat} {row : Option Nat} {pl : List Nat} (h : Ch a w R row pl) (b i : Nat) (hb : b ≠ R) (hr : row = some b ∨ a.heap.size ≤ b) (v : Value) : Ch a (w.setCell ⟨b, i, none⟩ v) R row pl :=
  ⟨h.os, h.tape, h.output, by simp [World.setCell]; exact h.size, fun k hk h1 h2 => by
     rw [Below.heap_setCell _ _ _ _ (by intro e; have e' : k = b := e; rcases hr with hr | hr; exact h2 (by rw [e', hr]); omega)]; exact h.block k hk h1 h2,
   fun j hj => by rw [World.cell?_setCell_other _ _ _ _ (by rintro e; cases e; exact hb rfl)]; exact h.cell j hj, fun j => by rw [World.frozen?_setCell]; exact h.frozen j⟩
theorem Ch.sets {a : World} {R : Nat} {row : Option Nat} {pl : List Nat} (b : Nat) (hb : b ≠ R) (hr : row = some b ∨ a.heap.size ≤ b) : ∀ (vs : List Value) (o : Nat) (w : World), Ch a w R row pl → Ch a (w.setCells b o vs) R row pl
  | [], _, _, h => h
  | u :: r, o, _, h => Ch.sets b hb hr r (o + 1) _ (h.set b o hb hr u)
theorem Ch.grown {a w w' : World} {R : Nat} {row : Option Nat} {pl : List Nat} (h : Ch a w R row pl) (hg : w.grownBy w' row) (hR : R < a.heap.size) (hrow : row ≠ some R) : Ch a w' R row pl :=
  ⟨hg.os.trans h.os, hg.tape.trans h.tape, hg.output.trans h.output, Nat.le_trans h.size hg.size, fun k hk h1 h2 => (hg.block k (by have := h.size; omega) h2).trans (h.block k hk h1 h2),
   fun i hi => (hg.cell_far ⟨R, i, none⟩ (by have := h.size; show R < _; omega) (fun e => hrow e.symm)).trans (h.cell i hi),
   fun i => (hg.frozen_far ⟨R, i, none⟩ (by have := h.size; show R < _; omega) (fun e => hrow e.symm)).trans (h.frozen i)⟩
theorem Ch.below {a w : World} {R : Nat} {row : Option Nat} {pl : List Nat} (h : Ch a w R row pl) (hR : R < a.heap.size) (hrow : ∀ k, row = some k → R ≤ k) : Below R a w :=
  ⟨h.os, h.tape, h.output, h.size, fun k hk => h.block k (by omega) (by omega) (fun e => by have := hrow k e.symm; omega)⟩
end Go.Proofs.YtknckgibfbboaaaDoor
