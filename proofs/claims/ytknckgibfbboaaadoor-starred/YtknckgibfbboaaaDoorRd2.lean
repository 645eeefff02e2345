import Derived.Test.YtknckgibfbboaaaDoorRd
namespace Go.Proofs.YtknckgibfbboaaaDoor
open Go.RowKit

theorem OutOk.lt {w : World} {base : Nat} {H : Fins} : ∀ {vs : List Value} {rs : List Rw}, OutOk w base H vs rs → ∀ v ∈ vs, ∀ k, v.ownBlock = some k → base ≤ k ∧ k < w.heap.size
  | [], [], _, v, hv => by simp at hv
  | u :: vs, _ :: _, h, v, hv => by
    rcases List.mem_cons.1 hv with rfl | hv
    · obtain ⟨cs, _, ho⟩ := h.1
      exact ho.lt
    · exact OutOk.lt h.2 v hv
  | [], _ :: _, h, _, _ => h.elim
  | _ :: _, [], h, _, _ => h.elim
theorem Fin.lt {w : World} {H : Fins} (h : Fin w H) {g : Nat} {arr : Array Value} (hg : H g = some arr) : g < w.heap.size := (Array.getElem?_eq_some_iff.1 (h g arr hg)).1
theorem mem_blocks {v : Value} {vs : List Value} {k : Nat} (hv : v ∈ vs) (hk : v.ownBlock = some k) : k ∈ vs.filterMap Value.ownBlock := List.mem_filterMap.2 ⟨v, hv, hk⟩

/-- the reader behind put's kind of change: R's cells at 1 and 4, the inner row's array -/
theorem Rd.put {w w' : World} {base R : Nat} {s : ByteArray} {H : Fins} {σ : St} {vi vo : Value} {rs : List Value} {xs cs : List Value} {css : List (List Value)} {it : It} {p : Nat}
    (h : Rd w base R s H σ) (h5 : w.cell? ⟨R, 5, none⟩ = some vo) (hcs : AllOk H css σ.inner.items) (hxs : xs = css.flatten) (ho : w.ownsRow base 94 3 vo σ.outer.length (outCells σ.outer rs)) (hout : OutOk w base H rs σ.outer) (hap : Apart H (vi :: vo :: rs))
    (hok : ∃ d, ItemOk H d cs it) (hp : PutPost w w' R base vi σ.inner.items.length xs cs p) :
    Rd w' base R s H { σ with pos := p, inner := { σ.inner with items := σ.inner.items ++ [it] } } := by
  obtain ⟨g, cap, e4, e1, hown, hat, hlt, hch⟩ := hp
  have hR := h.hR
  have hb := h.hb
  have cl : ∀ i, i ≠ 1 → i ≠ 4 → w'.cell? ⟨R, i, none⟩ = w.cell? ⟨R, i, none⟩ := fun i h1 h4 => hch.cell i (by simp; omega)
  have others : ∀ v ∈ vo :: rs, ∀ k, v.ownBlock = some k → base ≤ k ∧ k < w.heap.size := by
    intro v hv k hk
    rcases List.mem_cons.1 hv with rfl | hv
    · exact ho.lt k hk
    · exact hout.lt v hv k hk
  have apart : ∀ v ∈ vo :: rs, ∀ k, v.ownBlock = some k → some k ≠ vi.ownBlock := by
    intro v hv k hk e
    have hn := hap.1
    rw [List.filterMap_cons, ← e] at hn
    exact (List.nodup_cons.1 hn).1 (mem_blocks hv hk)
  have blk : ∀ v ∈ vo :: rs, ∀ k, v.ownBlock = some k → w'.heap[k]? = w.heap[k]? := by
    intro v hv k hk
    have := others v hv k hk
    exact hch.block k this.2 (by omega) (apart v hv k hk)
  have hfb : ∀ k arr, H k = some arr → some k ≠ vi.ownBlock := by
    intro k arr hk e
    have := hap.2 k (mem_blocks (by simp) e.symm)
    rw [this] at hk
    cases hk
  have hfin : Fin w' H := fun k arr hk => by
    rw [hch.block k (h.fin.lt hk) (by have := h.finb k arr hk; omega) (hfb k arr hk)]
    exact h.fin k arr hk
  refine ⟨hR, Nat.le_trans hb hch.size, (cl 0 (by omega) (by omega)).trans h.c0, e1, (cl 2 (by omega) (by omega)).trans h.c2, (cl 3 (by omega) (by omega)).trans h.c3, (cl 6 (by omega) (by omega)).trans h.c6,
    fun i hi => (cl _ (by omega) (by omega)).trans (h.c7 i hi), fun i hi => (cl _ (by omega) (by omega)).trans (h.c17 i hi), (cl 27 (by omega) (by omega)).trans h.c27, fun i hi => (hch.frozen i).trans (h.fz i hi), hfin, h.finb, ?_⟩
  refine ⟨_, vo, rs, e4, (cl 5 (by omega) (by omega)).trans h5, ⟨css ++ [cs], hcs.snoc hok, ?_⟩, owns_same ho (blk vo (by simp)), hout.same (fun v hv => blk v (by simp [hv])), ?_⟩
  · simp only [List.length_append, List.length_singleton, List.flatten_append, List.flatten_cons, List.flatten_nil, List.append_nil]
    rw [← hxs]
    exact hown
  · rcases hat with hat | hat
    · unfold Apart at hap ⊢
      rw [List.filterMap_cons, hat] at hap
      exact hap
    · have hnew : ∀ b ∈ (vo :: rs).filterMap Value.ownBlock, b < w.heap.size := by
        intro b hb'
        obtain ⟨v, hv, hk⟩ := List.mem_filterMap.1 hb'
        exact (others v hv b hk).2
      have hrest : ((vo :: rs).filterMap Value.ownBlock).Nodup ∧ ∀ b ∈ (vo :: rs).filterMap Value.ownBlock, H b = none := by
        refine ⟨?_, fun b hb' => hap.2 b ?_⟩
        · have hn := hap.1
          rw [List.filterMap_cons] at hn
          split at hn
          · exact hn
          · exact (List.nodup_cons.1 hn).2
        · rw [List.filterMap_cons]
          split
          · exact hb'
          · exact List.mem_cons_of_mem _ hb'
      have hgn : H g = none := by
        cases hg : H g with
        | none => rfl
        | some arr => have := h.fin.lt hg; omega
      refine ⟨?_, ?_⟩
      · rw [List.filterMap_cons]
        exact List.nodup_cons.2 ⟨fun hm => by have := hnew g hm; omega, hrest.1⟩
      · intro b hb'
        rw [List.filterMap_cons] at hb'
        rcases List.mem_cons.1 hb' with rfl | hb'
        · exact hgn
        · exact hrest.2 b hb'
theorem Rd.belowPut {w w' : World} {base R : Nat} {s : ByteArray} {H : Fins} {σ : St} {vi : Value} {n : Nat} {xs ys cs : List Value} {p : Int}
    (h : Rd w base R s H σ) (hi : w.ownsRow base 127 13 vi n ys) (hp : PutPost w w' R base vi n xs cs p) : Below R w w' := by
  obtain ⟨g, cap, _, _, _, _, _, hch⟩ := hp
  have hR := h.hR
  have hb := h.hb
  exact hch.below (by omega) (fun k hk => by have := (hi.lt k hk).1; omega)

/-- PUT, of a reader. -/
theorem put_rd {w : World} {base R : Nat} {s : ByteArray} {H : Fins} {σ : St} (h : Rd w base R s H σ) (wd : Nat) (hwd : wd ≤ 2) (hp : σ.pos ≤ 1000) (hn : σ.inner.items.length ≤ 1000)
    (k a0 a1 a2 a3 a4 a5 a6 a7 num least most : Int) (ra : Option Addr) (rn rc : Nat) (it : It) (hok : ∃ d, ItemOk H d [.int .i64 k, .int .u32 a0, .int .u32 a1, .int .u32 a2, .int .u32 a3, .int .u32 a4, .int .u32 a5, .int .u32 a6, .int .u32 a7, .int .i64 num, .int .i64 least, .int .i64 most, .slice ra rn rc] it) :
    Calls Tryd.prog 50 #[.pointer (some ⟨R, 0, none⟩), .agg #[.int .i64 k, .int .u32 a0, .int .u32 a1, .int .u32 a2, .int .u32 a3, .int .u32 a4, .int .u32 a5, .int .u32 a6, .int .u32 a7, .int .i64 num, .int .i64 least, .int .i64 most, .slice ra rn rc], .int .i64 wd] w
      fun e w' => e = .returned (.tuple #[]) ∧ Rd w' base R s H { σ with pos := σ.pos + wd, inner := { σ.inner with items := σ.inner.items ++ [it] } } ∧ Below R w w' := by
  obtain ⟨vi, vo, rs, h4, h5, hlive, ho, hout, hap⟩ := h.rows
  obtain ⟨ao, cp, rfl⟩ := hlive.shape
  obtain ⟨css, hcs, hown⟩ := hlive
  refine (put_any R σ.pos wd ao σ.inner.items.length cp base css.flatten w k a0 a1 a2 a3 a4 a5 a6 a7 num least most ra rn rc h.c1 h4 (h.fz 1 (by omega)) (h.fz 4 (by omega)) (by omega) (by omega) hown h.hb hn h.hR).mono ?_
  rintro e w' ⟨rfl, hp⟩
  refine ⟨rfl, ?_, h.belowPut hown hp⟩
  have := h.put (p := σ.pos + wd) h5 hcs rfl ho hout hap hok (by simpa using hp)
  simpa using this
end Go.Proofs.YtknckgibfbboaaaDoor
