import Derived.WalkKit
import Derived.Test.YtknckgibfbboaaaDoorTwin
import Derived.Deep.AppendLies
import Derived.Deep.Draws
/- Worlds: what a call leaves alone. -/
namespace Go.Proofs.YtknckgibfbboaaaDoor
open Go.RowKit

/-- w' is w but for the cells from o up to o + n of block B. -/
structure Only (w w' : World) (B o n : Nat) : Prop where
  os : w'.os = w.os
  tape : w'.tape = w.tape
  output : w'.output = w.output
  size : w'.heap.size = w.heap.size
  block : ∀ k, k ≠ B → w'.heap[k]? = w.heap[k]?
  cell : ∀ i, i < o ∨ o + n ≤ i → w'.cell? ⟨B, i, none⟩ = w.cell? ⟨B, i, none⟩
  frozen : ∀ i, w'.frozen? ⟨B, i, none⟩ = w.frozen? ⟨B, i, none⟩
theorem Only.refl (w : World) (B o n : Nat) : Only w w B o n := ⟨rfl, rfl, rfl, rfl, fun _ _ => rfl, fun _ _ => rfl, fun _ => rfl⟩
theorem Only.trans {a b c : World} {B o n : Nat} (h : Only a b B o n) (k : Only b c B o n) : Only a c B o n :=
  ⟨k.os.trans h.os, k.tape.trans h.tape, k.output.trans h.output, k.size.trans h.size, fun i hi => (k.block i hi).trans (h.block i hi), fun i hi => (k.cell i hi).trans (h.cell i hi), fun i => (k.frozen i).trans (h.frozen i)⟩
theorem Only.drew {a w : World} {B o n : Nat} (h : Only a w B o n) : Only a w.drew B o n := ⟨h.os, h.tape, h.output, h.size, h.block, h.cell, h.frozen⟩
theorem Only.drewN {a w : World} {B o n m : Nat} (h : Only a w B o n) : Only a (w.drewN m) B o n := ⟨h.os, h.tape, h.output, h.size, h.block, h.cell, h.frozen⟩
theorem Only.setCell {a w : World} {B o n : Nat} (h : Only a w B o n) (i : Nat) (hi : o ≤ i ∧ i < o + n) (v : Value) : Only a (w.setCell ⟨B, i, none⟩ v) B o n :=
  h.trans ⟨rfl, rfl, rfl, by simp [World.setCell], fun k hk => Below.heap_setCell _ _ _ _ hk, fun j hj => World.cell?_setCell_other _ _ _ _ (by rintro e; cases e; omega), fun _ => World.frozen?_setCell _ _ _ _⟩
theorem Only.mono {a w : World} {B o n o' n' : Nat} (h : Only a w B o n) (h1 : o' ≤ o) (h2 : o + n ≤ o' + n') : Only a w B o' n' :=
  ⟨h.os, h.tape, h.output, h.size, h.block, fun i hi => h.cell i (by omega), h.frozen⟩
theorem Only.far {a w : World} {B o n : Nat} (h : Only a w B o n) (p : Addr) (hp : p.block ≠ B) : w.cell? p = a.cell? p := World.cell?_of_block (h.block p.block hp)
theorem Only.far_frozen {a w : World} {B o n : Nat} (h : Only a w B o n) (p : Addr) (hp : p.block ≠ B) : w.frozen? p = a.frozen? p := World.frozen?_of_block (h.block p.block hp)
theorem Only.below {a w : World} {B o n C : Nat} (h : Only a w B o n) (hC : C ≤ B) : Below C a w :=
  ⟨h.os, h.tape, h.output, by rw [h.size]; exact Nat.le_refl _, fun k hk => h.block k (by omega)⟩

/-- a set of bytes lies at block B from o on -/
def SetAt (w : World) (B o : Nat) : Prop := ∀ i, i < 8 → (∃ z : Int, w.cell? ⟨B, o + i, none⟩ = some (.int .u32 z)) ∧ w.frozen? ⟨B, o + i, none⟩ = false
theorem SetAt.setCell {w : World} {B o : Nat} (h : SetAt w B o) (p : Addr) (z : Int) : SetAt (w.setCell p (.int .u32 z)) B o := by
  intro i hi
  obtain ⟨⟨u, hu⟩, hf⟩ := h i hi
  refine ⟨?_, by rw [World.frozen?_setCell]; exact hf⟩
  by_cases e : p = ⟨B, o + i, none⟩
  · subst e
    exact ⟨z, World.cell?_setCell_same _ _ _ hu⟩
  · exact ⟨u, by rw [World.cell?_setCell_other _ _ _ _ e]; exact hu⟩
theorem SetAt.drew {w : World} {B o : Nat} (h : SetAt w B o) : SetAt w.drew B o := h
theorem SetAt.drewN {w : World} {B o n : Nat} (h : SetAt w B o) : SetAt (w.drewN n) B o := h
theorem SetAt.only {w w' : World} {B o B' o' n : Nat} (h : SetAt w B o) (k : Only w w' B' o' n) (hd : B ≠ B' ∨ o + 8 ≤ o' ∨ o' + n ≤ o) : SetAt w' B o := by
  intro i hi
  obtain ⟨⟨u, hu⟩, hf⟩ := h i hi
  by_cases e : B = B'
  · subst e
    exact ⟨⟨u, by rw [k.cell _ (by omega)]; exact hu⟩, by rw [k.frozen]; exact hf⟩
  · exact ⟨⟨u, by rw [k.far _ e]; exact hu⟩, by rw [k.far_frozen _ e]; exact hf⟩
/-- .. and which set it is -/
def SetIs (w : World) (B o : Nat) (f : Nat → Bool) : Prop := ∀ i, i < 8 → ∃ z : Int, w.cell? ⟨B, o + i, none⟩ = some (.int .u32 z) ∧ Word z f i
theorem SetIs.drew {w : World} {B o : Nat} {f : Nat → Bool} (h : SetIs w B o f) : SetIs w.drew B o f := h
theorem SetIs.drewN {w : World} {B o n : Nat} {f : Nat → Bool} (h : SetIs w B o f) : SetIs (w.drewN n) B o f := h
theorem SetIs.only {w w' : World} {B o B' o' n : Nat} {f : Nat → Bool} (h : SetIs w B o f) (k : Only w w' B' o' n) (hd : B ≠ B' ∨ o + 8 ≤ o' ∨ o' + n ≤ o) : SetIs w' B o f := by
  intro i hi
  obtain ⟨u, hu, hw⟩ := h i hi
  by_cases e : B = B'
  · subst e
    exact ⟨u, by rw [k.cell _ (by omega)]; exact hu, hw⟩
  · exact ⟨u, by rw [k.far _ e]; exact hu, hw⟩
theorem SetIs.setCell {w : World} {B o k : Nat} {f g : Nat → Bool} (h : SetIs w B o f) (z : Int) (hz : Word z g k) (hk : k < 8) (hg : ∀ i u, i < 8 → i ≠ k → Word u f i → Word u g i) : SetIs (w.setCell ⟨B, o + k, none⟩ (.int .u32 z)) B o g := by
  intro i hi
  obtain ⟨u, hu, hw⟩ := h i hi
  by_cases e : i = k
  · subst e
    exact ⟨z, World.cell?_setCell_same _ _ _ hu, hz⟩
  · exact ⟨u, by rw [World.cell?_setCell_other _ _ _ _ (by intro h'; injection h' with _ h''; omega)]; exact hu, hg i u hi e hw⟩
end Go.Proofs.YtknckgibfbboaaaDoor
