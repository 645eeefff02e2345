import Derived.Test.YtldiemjlpnachabDoorFe
import Derived.Test.YtldiemjlpnachabDoorIto
import Derived.Lib.AppendStr
import Derived.Lib.SmallJoins
/- A search of a text in memory: put. -/
namespace Go.Proofs.YtldiemjlpnachabDoor
open Go.RowKit

structure Opt where
  only : Bool
  invert : Bool
  count : Bool
  number : Bool
abbrev Tb (w : World) : Prop := Lib.TabIs Tryd.prog w "internal/strconv.uint64pow10" .u64 Lib.pow10Tab
theorem gTb : Tryd.prog.globalNamed "internal/strconv.uint64pow10" = some 0 := by kernel_rfl
theorem Tb.below {w w' : World} {B : Nat} (h : Tb w) (k : Below B w w') (hB : 0 < B) : Tb w' := by
  unfold Tb Lib.TabIs World.var? at *
  rw [gTb] at *
  simp only [Option.bind_some] at *
  rw [k.block _ hB]
  exact h
def byC (l : List UInt8) : List Value := l.map fun b => .int .u8 b.toNat
theorem byC_app (a b : List UInt8) : byC (a ++ b) = byC a ++ byC b := by unfold byC; simp
theorem byC_str (s : ByteArray) : Lib.strCells s = byC s.data.toList := rfl
/-- a search of a text -/
structure Gs (w : World) (S g : Nat) (o : Opt) (num ch : Nat) (out : List UInt8) : Prop where
  c0 : w.cell? ⟨S, 0, none⟩ = some (.pointer (some ⟨g, 0, none⟩))
  c1 : w.cell? ⟨S, 1, none⟩ = some (.bool o.only)
  c2 : w.cell? ⟨S, 2, none⟩ = some (.bool o.invert)
  c3 : w.cell? ⟨S, 3, none⟩ = some (.bool o.count)
  c4 : w.cell? ⟨S, 4, none⟩ = some (.bool o.number)
  c5 : w.cell? ⟨S, 5, none⟩ = some (.int .i64 num)
  c6 : w.cell? ⟨S, 6, none⟩ = some (.int .i64 ch)
  c7 : ∃ v, w.cell? ⟨S, 7, none⟩ = some v ∧ w.ownsRow (S + 1) 5 1 v out.length (byC out)
  f : ∀ i, w.frozen? ⟨S, i, none⟩ = false
theorem Gs.lt {w : World} {S g : Nat} {o : Opt} {num ch : Nat} {out : List UInt8} (h : Gs w S g o num ch out) : S < w.heap.size := World.block_lt_of_cell? w _ h.c0
theorem Gs.of {w w' : World} {S g : Nat} {o : Opt} {num ch : Nat} {out : List UInt8} (h : Gs w S g o num ch out) (hS : w'.heap[S]? = w.heap[S]?) (ho : ∀ v k, w.cell? ⟨S, 7, none⟩ = some v → v.ownBlock = some k → w'.heap[k]? = w.heap[k]?) : Gs w' S g o num ch out := by
  have c : ∀ i, w'.cell? ⟨S, i, none⟩ = w.cell? ⟨S, i, none⟩ := fun i => World.cell?_of_block hS
  obtain ⟨v, h1, h2⟩ := h.c7
  exact ⟨(c 0).trans h.c0, (c 1).trans h.c1, (c 2).trans h.c2, (c 3).trans h.c3, (c 4).trans h.c4, (c 5).trans h.c5, (c 6).trans h.c6, ⟨v, (c 7).trans h1, owns_same h2 (fun k hk => ho v k h1 hk)⟩, fun i => (World.frozen?_of_block hS).trans (h.f i)⟩
theorem Gs.below {w w' : World} {S g : Nat} {o : Opt} {num ch : Nat} {out : List UInt8} (h : Gs w S g o num ch out) (k : Below w.heap.size w w') : Gs w' S g o num ch out :=
  h.of (k.block S h.lt) (fun v b hv hb => by
    obtain ⟨v', h1, h2⟩ := h.c7
    rw [hv] at h1
    cases h1
    exact k.block b (h2.lt b hb).2)
theorem Gs.alloc {w : World} {S g : Nat} {o : Opt} {num ch : Nat} {out : List UInt8} (h : Gs w S g o num ch out) (ob : Obj) : Gs (w.alloc ob) S g o num ch out := h.below ((Below.refl _ _).alloc (Nat.le_refl _) _)
/-- a number of it is written -/
theorem Gs.setN {w : World} {S g : Nat} {o : Opt} {num ch : Nat} {out : List UInt8} (h : Gs w S g o num ch out) (n : Nat) : Gs (w.setCell ⟨S, 5, none⟩ (.int .i64 n)) S g o n ch out := by
  have c : ∀ i, i ≠ 5 → (w.setCell ⟨S, 5, none⟩ (.int .i64 n)).cell? ⟨S, i, none⟩ = w.cell? ⟨S, i, none⟩ := fun i hi => World.cell?_setCell_other _ _ _ _ (by rintro e; injection e with _ e2; exact hi e2.symm)
  obtain ⟨v, h1, h2⟩ := h.c7
  exact ⟨(c 0 (by omega)).trans h.c0, (c 1 (by omega)).trans h.c1, (c 2 (by omega)).trans h.c2, (c 3 (by omega)).trans h.c3, (c 4 (by omega)).trans h.c4, World.cell?_setCell_same _ _ _ h.c5, (c 6 (by omega)).trans h.c6, ⟨v, (c 7 (by omega)).trans h1, ownsRow_setCell_other h2 (fun e => by have := (h2.lt S e).1; omega) _⟩, fun i => by rw [World.frozen?_setCell]; exact h.f i⟩
theorem Gs.setC {w : World} {S g : Nat} {o : Opt} {num ch : Nat} {out : List UInt8} (h : Gs w S g o num ch out) (n : Nat) : Gs (w.setCell ⟨S, 6, none⟩ (.int .i64 n)) S g o num n out := by
  have c : ∀ i, i ≠ 6 → (w.setCell ⟨S, 6, none⟩ (.int .i64 n)).cell? ⟨S, i, none⟩ = w.cell? ⟨S, i, none⟩ := fun i hi => World.cell?_setCell_other _ _ _ _ (by rintro e; injection e with _ e2; exact hi e2.symm)
  obtain ⟨v, h1, h2⟩ := h.c7
  exact ⟨(c 0 (by omega)).trans h.c0, (c 1 (by omega)).trans h.c1, (c 2 (by omega)).trans h.c2, (c 3 (by omega)).trans h.c3, (c 4 (by omega)).trans h.c4, (c 5 (by omega)).trans h.c5, World.cell?_setCell_same _ _ _ h.c6, ⟨v, (c 7 (by omega)).trans h1, ownsRow_setCell_other h2 (fun e => by have := (h2.lt S e).1; omega) _⟩, fun i => by rw [World.frozen?_setCell]; exact h.f i⟩
/-- what a search leaves as it is -/
structure Gf (w w' : World) (S : Nat) : Prop where
  bel : Below S w w'
  blk : ∀ (k : Nat) cs t fr, k ≠ S → w.heap[k]? = some (.cells cs t fr) → t ≠ 5 → w'.heap[k]? = some (.cells cs t fr)
theorem Gf.refl (w : World) (S : Nat) : Gf w w S := ⟨Below.refl _ _, fun _ _ _ _ _ h _ => h⟩
theorem Gf.trans {a b c : World} {S : Nat} (h : Gf a b S) (k : Gf b c S) : Gf a c S := ⟨h.bel.trans k.bel, fun i cs t fr h1 h2 h3 => k.blk i cs t fr h1 (h.blk i cs t fr h1 h2 h3) h3⟩
theorem Gf.of {w w' : World} {S : Nat} (h : Below w.heap.size w w') (hS : S ≤ w.heap.size) : Gf w w' S := ⟨h.mono hS, fun k _ _ _ _ h2 _ => (h.block k (Array.getElem?_eq_some_iff.1 h2).1).trans h2⟩
theorem Gf.alloc {w : World} {S : Nat} (hS : S ≤ w.heap.size) (o : Obj) : Gf w (w.alloc o) S := Gf.of ((Below.refl _ _).alloc (Nat.le_refl _) _) hS
theorem Gf.set {w : World} {S i : Nat} (v : Value) : Gf w (w.setCell ⟨S, i, none⟩ v) S :=
  ⟨(Below.refl S w).setCell (Nat.le_refl S) v, fun _ _ _ _ h1 h2 _ => (Below.heap_setCell _ _ _ _ h1).trans h2⟩
theorem own_ty {w : World} {base e size : Nat} {v : Value} {n k : Nat} {xs : List Value} (h : w.ownsRow base e size v n xs) (hk : v.ownBlock = some k) : ∃ cur, w.heap[k]? = some (.cells cur e (0, 0)) := by
  rcases h.2 with ⟨h0, _⟩ | ⟨g, cap, cur, hv, _, hg, _⟩
  · rw [h0] at hk; cases hk
  · rw [hv] at hk
    cases hk
    exact ⟨cur, hg⟩
/-- something is laid behind the output -/
theorem Gs.app {w w1 : World} {S g : Nat} {o : Opt} {num ch : Nat} {out add : List UInt8} (h : Gs w S g o num ch out) {v v' : Value} (hv : w.cell? ⟨S, 7, none⟩ = some v) (hown : w1.ownsRow (S + 1) 5 1 v' (out.length + add.length) (byC out ++ byC add)) (hgrow : w.grownBy w1 v.ownBlock) :
    w1.cell? ⟨S, 7, none⟩ = some v ∧ w1.frozen? ⟨S, 7, none⟩ = false ∧ Gs (w1.setCell ⟨S, 7, none⟩ v') S g o num ch (out ++ add) ∧ Gf w (w1.setCell ⟨S, 7, none⟩ v') S := by
  have hS := h.lt
  obtain ⟨v0, h1, h2⟩ := h.c7
  rw [hv] at h1
  cases h1
  have ulo : ∀ k, v.ownBlock = some k → S + 1 ≤ k := fun k hk => (h2.lt k hk).1
  have blk : ∀ k, k ≤ S → w1.heap[k]? = w.heap[k]? := fun k hk => hgrow.block k (by omega) (fun e => by have := ulo k e.symm; omega)
  have c : ∀ i, w1.cell? ⟨S, i, none⟩ = w.cell? ⟨S, i, none⟩ := fun i => World.cell?_of_block (blk S (Nat.le_refl _))
  have d : ∀ i, i ≠ 7 → (w1.setCell ⟨S, 7, none⟩ v').cell? ⟨S, i, none⟩ = w.cell? ⟨S, i, none⟩ := fun i hi => (World.cell?_setCell_other _ _ _ _ (by rintro e; injection e with _ e2; exact hi e2.symm)).trans (c i)
  have fr : ∀ i, w1.frozen? ⟨S, i, none⟩ = false := fun i => (World.frozen?_of_block (blk S (Nat.le_refl _))).trans (h.f i)
  refine ⟨(c 7).trans hv, fr 7, ⟨(d 0 (by omega)).trans h.c0, (d 1 (by omega)).trans h.c1, (d 2 (by omega)).trans h.c2, (d 3 (by omega)).trans h.c3, (d 4 (by omega)).trans h.c4, (d 5 (by omega)).trans h.c5, (d 6 (by omega)).trans h.c6, ⟨v', World.cell?_setCell_same _ _ _ ((c 7).trans hv), ?_⟩, fun i => by rw [World.frozen?_setCell]; exact fr i⟩, ⟨⟨hgrow.os, hgrow.tape, hgrow.output, by simp [World.setCell]; exact hgrow.size, fun k hk => ?_⟩, fun k cs t fr k1 k2 k3 => ?_⟩⟩
  · rw [byC_app, List.length_append]
    exact ownsRow_setCell_other hown (fun e => by have := (hown.lt S e).1; omega) _
  · rw [Below.heap_setCell _ _ _ _ (by show k ≠ S; omega)]
    exact blk k (by omega)
  · rw [Below.heap_setCell _ _ _ _ k1]
    refine (hgrow.block k (Array.getElem?_eq_some_iff.1 k2).1 (fun e => ?_)).trans k2
    obtain ⟨cur, hc⟩ := own_ty h2 e.symm
    rw [k2] at hc
    cases hc
    exact k3 rfl
theorem uBytes : Tryd.prog.underlying 23 = some (.slice 5) := by kernel_rfl
theorem uStr : Tryd.prog.underlying 9 = some .string := by kernel_rfl
theorem info_u8 : (Tryd.prog.info? 5).map (fun i => (i.zero, i.size, i.bytes)) = some (some (.int .u8 0), 1, 1) := by kernel_rfl
/-- a line of the output -/
def fmtL (o : Opt) (num : Nat) (line : List UInt8) : List UInt8 := (if o.number = true then Lib.itoa num ++ [58] else []) ++ line ++ [10]
end Go.Proofs.YtldiemjlpnachabDoor
