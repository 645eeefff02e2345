/- The document's reader: a row, walked. -/
import Derived.Test.YtjgafakfpcgpjaaDoorRGrp2
namespace Go.Proofs.YtjgafakfpcgpjaaDoor
open Go.RowKit

/-- what stands at each round of a row -/
def RW (w wr : World) (R P : Nat) (s : ByteArray) (H : Fins) (vo : Value) (σ : St) (ao : Option Addr) (ln rc j : Nat) (can : Bool) : Prop :=
  ∃ (bs : List Nat) (its : List (Int × Int)) (τ' : RSt) (H' : Fins) (vo' : Value), ln = its.length ∧ RI w wr R P s H H' vo vo' (.slice ao ln rc) τ' bs its ∧ sumSz (its.map (·.2)) ≤ 21002 * ((j - σ.pos : Nat) : Int) ∧ its.length ≤ j - σ.pos ∧ Res s.data.toList σ j τ' (KIn s.data.toList j its can)
section
variable {w w2 : World} {R P : Nat} {s : ByteArray} {H H' : Fins} {vo vo' : Value} {τ τ' : RSt} {σ σ' : St} {bs : List Nat} {its : List (Int × Int)} {ao : Option Addr} {ln rc j : Nat} {can : Bool}
theorem RI.post (h : RI w w2 R P s H H' vo vo' (.slice ao ln rc) τ' bs its) (hl : ln = its.length) (hj1 : σ.pos ≤ j) (hj2 : j ≤ s.size) (hsum : sumSz (its.map (·.2)) ≤ 21002 * ((j - σ.pos : Nat) : Int)) (hlen : its.length ≤ j - σ.pos) (hres : Res s.data.toList σ j τ' (KRow s.data.toList j its)) :
    RowPost w w2 (.returned (.tuple #[.slice ao ln rc, .int .i64 j])) R P s H vo σ := by
  subst hl
  exact ⟨ao, rc, j, bs, its, τ', H', vo', rfl, h.rg, h.kp, h.hg, h.lv, h.rn, hj1, hj2, hsum, hlen, hres⟩
theorem rw_start (h : Rg w R P s H vo τ) (hS : Sim σ τ) (hit : σ.inner.items = []) (hcar : sw s.data.toList σ.pos [94] = false) : RW w w R P s H vo σ none 0 0 σ.pos false :=
  ⟨[], [], τ, H, vo, rfl, RI.start h, by simp [sumSz], Nat.zero_le _, .inl ⟨σ, Reach.refl _ _, hS, rfl, rfl, rfl, rfl, by rw [hit]; trivial, by rw [hit]; rfl, fun _ => hcar⟩⟩
/-- the last pointer of a row -/
theorem RI.lastOne {n : Nat} (h : RI w w2 R P s H H' vo vo' (.slice ao (n + 1) rc) τ' bs its) (hl : n + 1 = its.length) : ∃ g bs' b0 is it0 d0, ao = some ⟨g, 0, none⟩ ∧ bs = bs' ++ [b0] ∧ its = is ++ [it0] ∧ is.length = n ∧ RItemOk H' d0 b0 it0 ∧
    w2.cell? ⟨g, n, none⟩ = some (.pointer (some ⟨b0, 0, none⟩)) ∧ w2.frozen? ⟨g, n, none⟩ = false ∧ g < w2.heap.size ∧ n + 1 ≤ rc ∧ rc ≤ maxLen := by
  rcases list_snoc its with e | ⟨is, it0, rfl⟩
  · rw [e] at hl; simp at hl
  · obtain ⟨bs', b0, rfl, h1, d0, h2⟩ := h.lv.all.unsnoc
    have hn : is.length = n := by simp at hl; omega
    rcases h.lv.own.2 with ⟨e, _⟩ | ⟨g, cap, cur, e, _, hg, k1, k2, k3, k4⟩
    · simp at e
    · have hown := h.lv.own
      simp only [Value.slice.injEq] at e
      obtain ⟨rfl, _, rfl⟩ := e
      have hc : w2.cell? ⟨g, n, none⟩ = some (ptr b0) := by
        rw [show (is ++ [it0]).length = n + 1 by simp; omega] at hown
        refine owns_cell hown n (ptr b0) ?_
        rw [List.map_append, List.map_singleton, List.getElem?_append_right (by rw [List.length_map, h1.length]; omega), List.length_map, h1.length, show n - is.length = 0 by omega]
        rfl
      exact ⟨g, bs', b0, is, it0, d0, rfl, rfl, rfl, hn, h2, hc, by simp [World.frozen?, hg], h.lt rfl, by simp at k1; omega, k2⟩
theorem RI.rep {g n d0 b0 : Nat} {is : List (Int × Int)} {it0 : Int × Int} {m mx : Int} (h : RI w w2 R P s H H' vo vo' (.slice (some ⟨g, 0, none⟩) (n + 1) rc) τ' (bs ++ [b0]) (is ++ [it0])) (hn : is.length = n) (hq : RItemOk H' d0 b0 it0) (hm : 0 ≤ m ∧ m ≤ 20) (hx : -1 ≤ mx ∧ mx ≤ 20) (ht : 1 ≤ tmSz m mx it0.2 ∧ tmSz m mx it0.2 ≤ 21001) :
    ∃ H2 vo2, RI w ((w2.alloc (.cells (itC ⟨#[116, 105, 109, 101, 115]⟩ 0 (some ⟨b0, 0, none⟩) m mx) 63)).setCell ⟨g, n, none⟩ (.pointer (some ⟨w2.heap.size, 0, none⟩))) R P s H H2 vo vo2 (.slice (some ⟨g, 0, none⟩) (n + 1) rc) τ' (bs ++ [w2.heap.size]) (is ++ [(5, tmSz m mx it0.2)]) := by
  obtain ⟨H2, vo2, h1, d, h2⟩ := h.step (times_at h.rg hq hm hx ht)
  subst hn
  exact ⟨H2, vo2, h1.last rfl h2⟩
/-- the last item is repeated: what stands then -/
theorem rw_rep {w3 : World} {g n d0 b0 k : Nat} {is : List (Int × Int)} {it0 : Int × Int} {m mx : Int} (h : RI w w2 R P s H H' vo vo' (.slice (some ⟨g, 0, none⟩) (n + 1) rc) τ' (bs ++ [b0]) (is ++ [it0])) (hn : is.length = n) (hq : RItemOk H' d0 b0 it0) (hm : 0 ≤ m ∧ m ≤ 20) (hx : -1 ≤ mx ∧ mx ≤ 20)
    (hA : AtA s.data.toList σ σ' j τ' (is ++ [it0]) true) (hj : j < s.size) (hjk : j < k) (hpj : σ.pos ≤ j) (hst : stepT s.data.toList σ' = (0, { σ' with pos := k, inner := { σ'.inner with items := repL σ'.inner.items m mx } }))
    (hsum : sumSz ((is ++ [it0]).map (·.2)) ≤ 21002 * ((j - σ.pos : Nat) : Int)) (hlen : (is ++ [it0]).length ≤ j - σ.pos)
    (hw : w3 = (w2.alloc (.cells (itC ⟨#[116, 105, 109, 101, 115]⟩ 0 (some ⟨b0, 0, none⟩) m mx) 63)).setCell ⟨g, n, none⟩ (.pointer (some ⟨w2.heap.size, 0, none⟩))) :
    RW w w3 R P s H vo σ (some ⟨g, 0, none⟩) (n + 1) rc k true := by
  subst hw
  have ht := hA.tm hm hx
  obtain ⟨σ2, hA2⟩ := hA.rep (by rw [len_data]; exact hj) hjk hst hm hx
  obtain ⟨H2, vo2, hI⟩ := h.rep hn hq hm hx ht
  have hpos : 1 ≤ it0.2 := hq.bd.1
  rw [sumSz_last] at hsum
  simp only [List.length_append, List.length_singleton] at hlen
  exact ⟨_, _, τ', H2, vo2, by simp; omega, hI, by rw [sumSz_last]; show sumSz (is.map (·.2)) + tmSz m mx it0.2 ≤ _; omega, by simp only [List.length_append, List.length_singleton]; omega, hA2.res⟩
/-- an item is appended: what stands then -/
theorem rw_item {w3 : World} {g cap b d j2 : Nat} {it : Int × Int} {o : Obj} {τ2 : RSt} (h : RI w w2 R P s H H' vo vo' (.slice ao ln rc) τ2 bs its) (hln : ln = its.length) (hb : RItemOk H' d b it) (hA : AtA s.data.toList σ σ' j τ its can) (hr : Res s.data.toList σ' j2 τ2 (KIt σ' it)) (h1 : it.1 ≠ 1) (h2 : it.2 ≤ 21002 * ((j2 - σ'.pos : Nat) : Int)) (hj : j < j2) (hpj : σ.pos ≤ j)
    (hsum : sumSz (its.map (·.2)) ≤ 21002 * ((j - σ.pos : Nat) : Int)) (hlen : its.length ≤ j - σ.pos)
    (hgr : (w2.alloc o).grownBy w3 (Value.slice ao ln rc).ownBlock) (hown : w3.ownsRow 0 60 1 (.slice (some ⟨g, 0, none⟩) (ln + 1) cap) (ln + 1) (bs.map ptr ++ [ptr b])) (hat : (Value.slice ao ln rc).ownBlock = some g ∨ g = w2.heap.size + 1) :
    RW w w3 R P s H vo σ (some ⟨g, 0, none⟩) (ln + 1) cap j2 (!(it.1 == 2)) := by
  subst hln
  have hp := hA.pos
  refine ⟨_, _, τ2, H', vo', by simp, by have := h.append hb hgr hown hat; simpa using this, by rw [sumSz_last]; omega, by simp only [List.length_append, List.length_singleton]; omega, hA.item hr h1⟩
/-- the item's own block stands as it was -/
theorem RI.far {w3 : World} {b d : Nat} {it : Int × Int} {o : Obj} {is : ByteArray} (h : RI w w2 R P s H H' vo vo' (.slice ao ln rc) τ' bs its) (hb : RItemOk H' d b it) (hgr : (w2.alloc o).grownBy w3 (Value.slice ao ln rc).ownBlock) (hc : w2.cell? ⟨b, 0, none⟩ = some (.string is)) : w3.cell? ⟨b, 0, none⟩ = some (.string is) := by
  have hlt : b < w2.heap.size := World.block_lt_of_cell? w2 _ hc
  have hH : H' b ≠ none := by
    cases d with
    | zero => exact hb.elim
    | succ d => obtain ⟨arr, h1, _⟩ := hb; rw [h1]; simp
  rw [hgr.cell_far _ (by simp; omega) (fun e => hH (h.lv.nH b e.symm)), World.cell?_alloc_lt _ _ _ hlt]
  exact hc
/-- a row that begins with its anchor -/
theorem rw_caret {w3 : World} {g cap : Nat} {o : Obj} (h : Rg w R P s H vo τ) (hS : Sim σ τ) (hit : σ.inner.items = []) (hcar : sw s.data.toList σ.pos [94] = true)
    (hgr : ((w.alloc (.cells (itC ⟨#[94]⟩ 0 none 0 0) 63)).alloc o).grownBy w3 none) (hown : w3.ownsRow 0 60 1 (.slice (some ⟨g, 0, none⟩) (0 + 1) cap) (0 + 1) ([] ++ [ptr w.heap.size])) (hat : none = some g ∨ g = w.heap.size + 1 + 1) :
    RW w w3 R P s H vo σ (some ⟨g, 0, none⟩) 1 cap (σ.pos + 1) false := by
  have hl := len_data s
  rw [sw1] at hcar
  simp only [Bool.and_eq_true, decide_eq_true_eq, beq_iff_eq] at hcar
  have hc : ch s.data.toList σ.pos = 94 := hcar.2
  have hst : stepT s.data.toList σ = (0, addIt σ (1, 1) 1) := by
    unfold stepT
    rw [if_neg (by omega), if_neg (by omega), if_neg (by omega), if_pos ⟨hc, hit⟩]
  obtain ⟨H2, vo2, hI, d, hb⟩ := (RI.start h).step (alloc_leaf (k := 1) (is := ⟨#[94]⟩) h (itC_size _ _ _ _ _) (itC_0 _ _ _ _ _) (.inr (.inl ⟨rfl, rfl⟩)))
  have hI2 := hI.append hb (g := g) (cap := cap) (o := o) (by exact hgr) (by exact hown) (.inr (by simpa using hat))
  refine ⟨_, _, τ, H2, vo2, rfl, hI2, by rw [sumSz_last]; simp [sumSz], by simp, .inl ⟨_, Reach.step (by omega) hst (by show σ.pos < σ.pos + 1; omega), hS.add _ _, rfl, rfl, rfl, rfl, ?_, ?_, fun e => ?_⟩⟩
  · show RelL (σ.inner.items ++ [(1, 1)]) _
    rw [hit]
    exact ⟨rfl, .inl ⟨by simp, rfl⟩, by simp, by simp, trivial⟩
  · show canB (σ.inner.items ++ [(1, 1)]) = false
    rw [canB_snoc]; rfl
  · have e2 : σ.inner.items ++ [((1 : Int), (1 : Int))] = [] := e
    simp at e2
theorem RItemOk.is2 {d b : Nat} {it : Int × Int} (h : RItemOk H' d b it) (hf : RFin w H') (hne : it.1 ≠ 1) : ∃ is, w.cell? ⟨b, 0, none⟩ = some (.string is) ∧ (is.toList == [36]) = (it.1 == 2) := by
  cases d with
  | zero => exact h.elim
  | succ d =>
    obtain ⟨arr, h1, h2, _, _, h⟩ := h
    rcases h with ⟨is, ha, hk, _⟩ | ⟨e, ha, _⟩ | ⟨e, ha, _⟩
    · refine ⟨is, hf.cell h1 ha, ?_⟩
      rcases hk with ⟨e, rfl⟩ | ⟨e, rfl⟩ | ⟨e, rfl⟩ | ⟨e, rfl⟩
      · rw [e, ByteArray.toList_eq]; decide
      · exact absurd e hne
      · rw [e, ByteArray.toList_eq]; decide
      · rw [e, ByteArray.toList_eq]; decide
    · exact ⟨_, hf.cell h1 ha, by rw [e, ByteArray.toList_eq]; decide⟩
    · exact ⟨_, hf.cell h1 ha, by rw [e, ByteArray.toList_eq]; decide⟩
theorem heap_twice (w : World) (a b : Obj) : ((w.alloc a).alloc b).heap[w.heap.size + 1]? = some b := by
  have := heap_alloc_last (w.alloc a) b
  rw [show (w.alloc a).heap.size = w.heap.size + 1 by simp] at this
  exact this
theorem rstep_star (h : ch s.data.toList σ'.pos = 42) (hc : canB σ'.inner.items = true) : stepT s.data.toList σ' = (0, { σ' with pos := σ'.pos + 1, inner := { σ'.inner with items := repL σ'.inner.items 0 (-1) } }) := by
  unfold stepT
  rw [if_neg (by omega), if_neg (by omega), if_neg (by omega), if_neg (by omega), if_neg (by omega), if_pos ⟨h, hc⟩]
theorem step_brace (h : sw s.data.toList σ'.pos [92, 123] = true) : stepT s.data.toList σ' = ivT s.data.toList σ' := by
  rw [sw2] at h
  simp only [Bool.and_eq_true, decide_eq_true_eq, beq_iff_eq] at h
  obtain ⟨⟨h1, h2⟩, h3⟩ := h
  have h2' : ch s.data.toList σ'.pos = 92 := h2
  have h3' : ch s.data.toList (σ'.pos + 1) = 123 := h3
  unfold stepT
  rw [if_pos h2']
  unfold escT
  rw [if_neg (by omega), if_neg (by omega), if_neg (by omega), if_pos h3']
theorem ClsH.more {H2 : Fins} (h : ClsH H) (hg : HG w H H2) : ClsH H2 := by
  obtain ⟨c, hc, he⟩ := h
  exact ⟨c, hg.1 _ _ hc, he⟩
end
end Go.Proofs.YtjgafakfpcgpjaaDoor
