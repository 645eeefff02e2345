import Derived.Test.YtknckgibfbboaabDoorNfa
import Derived.Test.YtknckgibfbboaabDoorOwn
import Derived.Test.YtknckgibfbboaabDoorRd
import Derived.Deep.LoopGhost
/- The steps in memory. -/
namespace Go.Proofs.YtknckgibfbboaabDoor
open Go.RowKit
attribute [local go_sem ↓] Go.wp_at_zero Go.wp_at_succ

theorem info_step : (Tryd.prog.info? 63).map (fun i => (i.zero, i.size, i.bytes)) = some (some (.agg #[.int .i64 0, .int .u32 0, .int .u32 0, .int .u32 0, .int .u32 0, .int .u32 0, .int .u32 0, .int .u32 0, .int .u32 0, .int .i64 0, .int .i64 0]), 11, 56) := by kernel_rfl
theorem there_cells11 {w : World} {g o : Nat} (h : w.there g o 11) : ∃ z0 z1 z2 z3 z4 z5 z6 z7 z8 z9 z10 : Value, w.cell? ⟨g, o, none⟩ = some z0 ∧ w.cell? ⟨g, o + 1, none⟩ = some z1 ∧ w.cell? ⟨g, o + 2, none⟩ = some z2 ∧ w.cell? ⟨g, o + 3, none⟩ = some z3 ∧ w.cell? ⟨g, o + 4, none⟩ = some z4 ∧ w.cell? ⟨g, o + 5, none⟩ = some z5 ∧ w.cell? ⟨g, o + 6, none⟩ = some z6 ∧ w.cell? ⟨g, o + 7, none⟩ = some z7 ∧ w.cell? ⟨g, o + 8, none⟩ = some z8 ∧ w.cell? ⟨g, o + 9, none⟩ = some z9 ∧ w.cell? ⟨g, o + 10, none⟩ = some z10 := by
  have H : ∀ j, j < 11 → ∃ z, w.cell? ⟨g, o + j, none⟩ = some z := fun j hj => Option.isSome_iff_exists.1 (h j hj).1
  obtain ⟨z0, e0⟩ := H 0 (by omega)
  obtain ⟨z1, e1⟩ := H 1 (by omega)
  obtain ⟨z2, e2⟩ := H 2 (by omega)
  obtain ⟨z3, e3⟩ := H 3 (by omega)
  obtain ⟨z4, e4⟩ := H 4 (by omega)
  obtain ⟨z5, e5⟩ := H 5 (by omega)
  obtain ⟨z6, e6⟩ := H 6 (by omega)
  obtain ⟨z7, e7⟩ := H 7 (by omega)
  obtain ⟨z8, e8⟩ := H 8 (by omega)
  obtain ⟨z9, e9⟩ := H 9 (by omega)
  obtain ⟨z10, e10⟩ := H 10 (by omega)
  exact ⟨z0, z1, z2, z3, z4, z5, z6, z7, z8, z9, z10, e0, e1, e2, e3, e4, e5, e6, e7, e8, e9, e10⟩
theorem there_free11 {w : World} {g o : Nat} (h : w.there g o 11) : w.frozen? ⟨g, o, none⟩ = false ∧ w.frozen? ⟨g, o + 1, none⟩ = false ∧ w.frozen? ⟨g, o + 2, none⟩ = false ∧ w.frozen? ⟨g, o + 3, none⟩ = false ∧ w.frozen? ⟨g, o + 4, none⟩ = false ∧ w.frozen? ⟨g, o + 5, none⟩ = false ∧ w.frozen? ⟨g, o + 6, none⟩ = false ∧ w.frozen? ⟨g, o + 7, none⟩ = false ∧ w.frozen? ⟨g, o + 8, none⟩ = false ∧ w.frozen? ⟨g, o + 9, none⟩ = false ∧ w.frozen? ⟨g, o + 10, none⟩ = false :=
  ⟨(h 0 (by omega)).2, (h 1 (by omega)).2, (h 2 (by omega)).2, (h 3 (by omega)).2, (h 4 (by omega)).2, (h 5 (by omega)).2, (h 6 (by omega)).2, (h 7 (by omega)).2, (h 8 (by omega)).2, (h 9 (by omega)).2, (h 10 (by omega)).2⟩
theorem chain11 (w : World) (g o : Nat) (u0 u1 u2 u3 u4 u5 u6 u7 u8 u9 u10 : Value) : (((((((((((w.setCell ⟨g, o, none⟩ u0).setCell ⟨g, o + 1, none⟩ u1).setCell ⟨g, o + 2, none⟩ u2).setCell ⟨g, o + 3, none⟩ u3).setCell ⟨g, o + 4, none⟩ u4).setCell ⟨g, o + 5, none⟩ u5).setCell ⟨g, o + 6, none⟩ u6).setCell ⟨g, o + 7, none⟩ u7).setCell ⟨g, o + 8, none⟩ u8).setCell ⟨g, o + 9, none⟩ u9).setCell ⟨g, o + 10, none⟩ u10) = w.setCells g o [u0, u1, u2, u3, u4, u5, u6, u7, u8, u9, u10] := rfl
/-- what put leaves, of the steps -/
def CPut (w w' : World) (R base : Nat) (v : Value) (n : Nat) (xs cs : List Value) : Prop :=
  ∃ g cap, w'.cell? ⟨R, 0, none⟩ = some (.slice (some ⟨g, 0, none⟩) (n + 1) cap) ∧ w'.ownsRow base 63 11 (.slice (some ⟨g, 0, none⟩) (n + 1) cap) (n + 1) (xs ++ cs) ∧
    (v.ownBlock = some g ∨ w.heap.size ≤ g) ∧ g < w'.heap.size ∧ Ch w w' R v.ownBlock [0]
theorem cput_mid {w w1 : World} {R base g n cap : Nat} {v r4 : Value} {xs cs : List Value} {o1 o2 : Obj} (hR : R < base) (hbase : base ≤ w.heap.size) (ag : v.ownBlock ≠ some R)
    (hown1 : w1.ownsRow base 63 11 (.slice (some ⟨g, 0, none⟩) (n + 1) cap) (n + 1) (xs ++ cs)) (hgrow : ((w.alloc o1).alloc o2).drew.grownBy w1 v.ownBlock) (hat : v.ownBlock = some g ∨ g = w.heap.size + 1 + 1) (hlt : g < w1.heap.size)
    (h4 : w1.cell? ⟨R, 0, none⟩ = some r4) :
    CPut w (w1.setCell ⟨R, 0, none⟩ (.slice (some ⟨g, 0, none⟩) (n + 1) cap)) R base v n xs cs := by
  have hg : g ≠ R := by
    have := (owns_cells hown1).choose_spec.1
    omega
  have hat' : v.ownBlock = some g ∨ w.heap.size ≤ g := by
    rcases hat with h | h
    · exact .inl h
    · right; omega
  exact ⟨g, cap, World.cell?_setCell_same _ _ _ h4, ownsRow_setCell_other hown1 (by simp [Value.ownBlock]; exact hg) _, hat', by simp [World.setCell]; exact hlt, (((((Ch.refl w R v.ownBlock [0]).alloc (by omega) o1).alloc (by omega) o2).drew).grown hgrow (by omega) ag).put 0 (by simp) _⟩

set_option maxRecDepth 100000 in
set_option maxHeartbeats 6400000 in
theorem cput_any (R : Nat) (ao : Option Addr) (n cp base : Nat) (xs : List Value) (w : World) (k a0 a1 a2 a3 a4 a5 a6 a7 nx ot : Int)
    (h4 : w.cell? ⟨R, 0, none⟩ = some (.slice ao n cp)) (f4 : w.frozen? ⟨R, 0, none⟩ = false)
    (hown : w.ownsRow base 63 11 (.slice ao n cp) n xs) (hbase : base ≤ w.heap.size) (hn : n ≤ 1000) (hR : R < base) :
    Calls Tryd.prog 15 #[.pointer (some ⟨R, 0, none⟩), .agg #[.int .i64 k, .int .u32 a0, .int .u32 a1, .int .u32 a2, .int .u32 a3, .int .u32 a4, .int .u32 a5, .int .u32 a6, .int .u32 a7, .int .i64 nx, .int .i64 ot]] w fun e w' => e = .returned (.int .i64 n) ∧ CPut w w' R base (.slice ao n cp) n xs [Value.int .i64 k, .int .u32 a0, .int .u32 a1, .int .u32 a2, .int .u32 a3, .int .u32 a4, .int .u32 a5, .int .u32 a6, .int .u32 a7, .int .i64 nx, .int .i64 ot] := by
  obtain ⟨i0, hi0, hz0, hz1, hz2⟩ := info_parts info_step
  have lR := World.block_lt_of_cell? w _ h4
  have ag : (Value.slice ao n cp).ownBlock ≠ some R := by
    intro e
    have := (hown.lt R e).1
    omega
  go_enter Tryd.func15, Tryd.ntmps15
  go_wp2_with fail
  have nR4 := World.new_ne w ⟨R, 0, none⟩ h4
  have agB : some w.heap.size ≠ (Value.slice ao n cp).ownBlock := by
    intro e
    have := (hown.lt _ e.symm).2
    omega
  have hn0 : (0 : Int) ≤ (n : Int) := Int.natCast_nonneg _
  have hn1 : (n : Int) < (n : Int) + 1 := by omega
  go_region_law
    ((refine step_append_lies _ (by rfl) _ _ _ (by rfl) base 63 i0 _ 11 56 Tryd.underlying42 hi0 hz0 hz1 hz2 rfl (by omega) (.slice ao n cp) n xs (by rfl) (((hown.alloc _).alloc _).drew)
        ⟨w.heap.size + 1, 0, none⟩ 1 1 [.int .i64 k, .int .u32 a0, .int .u32 a1, .int .u32 a2, .int .u32 a3, .int .u32 a4, .int .u32 a5, .int .u32 a6, .int .u32 a7, .int .i64 nx, .int .i64 ot] (by rfl) (by rfl) (World.news_of_block (cs := #[.int .i64 k, .int .u32 a0, .int .u32 a1, .int .u32 a2, .int .u32 a3, .int .u32 a4, .int .u32 a5, .int .u32 a6, .int .u32 a7, .int .i64 nx, .int .i64 ot]) (t := 63) (fr := (0, 0)) (heap_two w _ _)) (by simp [Value.oneCell'])
        (by omega) (by unfold maxLen; omega) (by omega) (by simp; omega) (w.heap.size + 1 + 1) (by simp) ?_; intro g cap w1 hown1 hgrow hat hlt; have r4 : w1.cell? ⟨R, 0, none⟩ = some (.slice ao n cp) := (hgrow.cell_far _ (by simp; omega) (Ne.symm ag)).trans (by go_keep); have rf4 : w1.frozen? ⟨R, 0, none⟩ = false := (hgrow.frozen_far _ (by simp; omega) (Ne.symm ag)).trans (frozen_two w _ _ _ _ lR f4); have gB : g ≠ w.heap.size := (by rintro rfl; rcases hat with hat | hat; exact agB hat.symm; omega); have gR : g ≠ R := (by rintro rfl; rcases hat with hat | hat; exact ag hat; omega)))
  all_goals
    have hM := cput_mid (cs := [Value.int .i64 k, .int .u32 a0, .int .u32 a1, .int .u32 a2, .int .u32 a3, .int .u32 a4, .int .u32 a5, .int .u32 a6, .int .u32 a7, .int .i64 nx, .int .i64 ot]) hR hbase ag hown1 hgrow hat hlt r4
    generalize w1.setCell ⟨R, 0, none⟩ (.slice (some ⟨g, 0, none⟩) (n + 1) cap) = W at hM ⊢
    clear hown1 hgrow hat hlt r4 rf4 gB gR
    have HM := hd hM
    clear hM
    go_wp2
    go_ret
    exact ⟨rfl, HM.out⟩
end Go.Proofs.YtknckgibfbboaabDoor
namespace Go.Proofs.YtknckgibfbboaabDoor
open Go.RowKit

/-- a step's eleven cells: kind, set, next, other -/
def stepCells (k : Int) (a : Nat → Int) (n o : Int) : List Value :=
  [.int .i64 k, .int .u32 (a 0), .int .u32 (a 1), .int .u32 (a 2), .int .u32 (a 3), .int .u32 (a 4), .int .u32 (a 5), .int .u32 (a 6), .int .u32 (a 7), .int .i64 n, .int .i64 o]
def StpOk (c : List Value) : Stp → Prop
  | .done => c = stepCells 0 (fun _ => 0) 0 0
  | .one f n => ∃ a, c = stepCells 1 a n 0 ∧ ∀ i, i < 8 → Word (a i) f i
  | .beg n => c = stepCells 2 (fun _ => 0) n 0
  | .fin n => c = stepCells 3 (fun _ => 0) n 0
  | .fork n o => c = stepCells 4 (fun _ => 0) n o
theorem StpOk.len {c : List Value} {st : Stp} (h : StpOk c st) : c.length = 11 := by
  cases st with
  | one f n => obtain ⟨a, h, _⟩ := h; rw [h]; rfl
  | _ => rw [show c = _ from h]; rfl
def StpsOk (css : List (List Value)) (cs : List Stp) : Prop := css.length = cs.length ∧ ∀ (i : Nat) c st, css[i]? = some c → cs[i]? = some st → StpOk c st
theorem StpsOk.nil : StpsOk [] [] := ⟨rfl, fun i c st h => by simp at h⟩
theorem StpsOk.snoc {css : List (List Value)} {cs : List Stp} {c : List Value} {st : Stp} (h : StpsOk css cs) (hc : StpOk c st) : StpsOk (css ++ [c]) (cs ++ [st]) := by
  refine ⟨by simp [h.1], fun i c' st' h1 h2 => ?_⟩
  rcases Nat.lt_or_ge i css.length with hi | hi
  · rw [List.getElem?_append_left hi] at h1
    rw [List.getElem?_append_left (by rw [← h.1]; exact hi)] at h2
    exact h.2 i c' st' h1 h2
  · rw [List.getElem?_append_right hi] at h1
    rw [List.getElem?_append_right (by rw [← h.1]; exact hi), ← h.1] at h2
    rcases Nat.eq_zero_or_pos (i - css.length) with h0 | h0
    · rw [h0] at h1 h2
      simp at h1 h2
      rw [← h1, ← h2]
      exact hc
    · rw [List.getElem?_eq_none (by simp; omega)] at h1
      cases h1
theorem StpsOk.lens {css : List (List Value)} {cs : List Stp} (h : StpsOk css cs) : ∀ c ∈ css, c.length = 11 := by
  intro c hc
  obtain ⟨i, hi, rfl⟩ := List.getElem_of_mem hc
  exact (h.2 i css[i] (cs[i]'(by rw [← h.1]; exact hi)) (List.getElem?_eq_getElem hi) (List.getElem?_eq_getElem _)).len
theorem flat_len {α : Type} (m : Nat) : ∀ (css : List (List α)), (∀ c ∈ css, c.length = m) → css.flatten.length = css.length * m
  | [], _ => by simp
  | c :: r, h => by
    rw [List.flatten_cons, List.length_append, flat_len m r (fun x hx => h x (by simp [hx])), h c (by simp), List.length_cons, Nat.add_mul, Nat.one_mul, Nat.add_comm]
theorem flat_get {α : Type} (m : Nat) : ∀ (css : List (List α)) (i j : Nat) (c : List α), (∀ c ∈ css, c.length = m) → css[i]? = some c → j < m → css.flatten[i * m + j]? = c[j]?
  | [], i, j, c, _, h, _ => by simp at h
  | x :: r, 0, j, c, hl, h, hj => by
    simp at h
    subst h
    rw [Nat.zero_mul, Nat.zero_add, List.flatten_cons, List.getElem?_append_left (by rw [hl x (by simp)]; exact hj)]
  | x :: r, i + 1, j, c, hl, h, hj => by
    have hx := hl x (by simp)
    rw [List.flatten_cons, List.getElem?_append_right (by rw [hx, Nat.add_mul]; omega), hx, show (i + 1) * m + j - m = i * m + j by rw [Nat.add_mul]; omega]
    exact flat_get m r i j c (fun y hy => hl y (by simp [hy])) (by simpa using h) hj

/-- the steps lie in memory -/
structure CodeAt (w : World) (base C : Nat) (cs : List Stp) : Prop where
  hC : C < base
  hb : base ≤ w.heap.size
  f0 : w.frozen? ⟨C, 0, none⟩ = false
  f1 : w.frozen? ⟨C, 1, none⟩ = false
  c1 : ∃ u, w.cell? ⟨C, 1, none⟩ = some u
  rows : ∃ v css, w.cell? ⟨C, 0, none⟩ = some v ∧ w.ownsRow base 63 11 v cs.length css.flatten ∧ StpsOk css cs
theorem CodeAt.drewN {w : World} {base C n : Nat} {cs : List Stp} (h : CodeAt w base C cs) : CodeAt (w.drewN n) base C cs := ⟨h.hC, h.hb, h.f0, h.f1, h.c1, h.rows⟩
theorem owns_shape {w : World} {base e size : Nat} {v : Value} {n : Nat} {xs : List Value} (h : w.ownsRow base e size v n xs) : ∃ ao cp, v = .slice ao n cp := by
  rcases h.2 with ⟨rfl, h0⟩ | ⟨g, cap, _, rfl, _⟩
  · exact ⟨none, 0, by rw [h0]⟩
  · exact ⟨_, _, rfl⟩
/-- what put does, of the steps -/
theorem put_c {w : World} {base C : Nat} {cs : List Stp} (h : CodeAt w base C cs) (hn : cs.length ≤ 1000) (k a0 a1 a2 a3 a4 a5 a6 a7 nx ot : Int) (st : Stp)
    (hok : StpOk [.int .i64 k, .int .u32 a0, .int .u32 a1, .int .u32 a2, .int .u32 a3, .int .u32 a4, .int .u32 a5, .int .u32 a6, .int .u32 a7, .int .i64 nx, .int .i64 ot] st) :
    Calls Tryd.prog 15 #[.pointer (some ⟨C, 0, none⟩), .agg #[.int .i64 k, .int .u32 a0, .int .u32 a1, .int .u32 a2, .int .u32 a3, .int .u32 a4, .int .u32 a5, .int .u32 a6, .int .u32 a7, .int .i64 nx, .int .i64 ot]] w
      fun e w' => e = .returned (.int .i64 cs.length) ∧ CodeAt w' base C (cs ++ [st]) ∧ Below C w w' := by
  obtain ⟨v, css, h4, hown, hcs⟩ := h.rows
  obtain ⟨ao, cp, rfl⟩ := owns_shape hown
  have hC := h.hC
  have hb := h.hb
  refine (cput_any C ao cs.length cp base css.flatten w k a0 a1 a2 a3 a4 a5 a6 a7 nx ot h4 h.f0 hown h.hb hn h.hC).mono ?_
  rintro e w' ⟨rfl, g, cap, e4, ho, hat, hlt, hch⟩
  refine ⟨rfl, ⟨hC, Nat.le_trans hb hch.size, (hch.frozen 0).trans h.f0, (hch.frozen 1).trans h.f1, ?_, ?_⟩, ?_⟩
  · obtain ⟨u, hu⟩ := h.c1
    exact ⟨u, (hch.cell 1 (by simp)).trans hu⟩
  · refine ⟨_, css ++ [_], e4, ?_, hcs.snoc hok⟩
    simp only [List.length_append, List.length_singleton, List.flatten_append, List.flatten_cons, List.flatten_nil, List.append_nil]
    exact ho
  · exact hch.below (by omega) (fun k hk => by have := (hown.lt k hk).1; omega)

/-- what item does, at depth d -/
def ItemBuilt (H : Fins) (d : Nat) : Prop := ∀ (w : World) (base C : Nat) (cs : List Stp) (g o : Nat) (cells : List Value) (it : It) (next : Nat), Fin w H → (∀ g arr, H g = some arr → g < C) → CodeAt w base C cs → g < C → (∀ j v, cells[j]? = some v → w.cell? ⟨g, o + j, none⟩ = some v) → ItemOk H d cells it →
    (itemC it.3 next cs).1.length ≤ 1000 →
    Calls Tryd.prog 28 #[.pointer (some ⟨C, 0, none⟩), .pointer (some ⟨g, o, none⟩), .int .i64 next] w fun e w' => e = .returned (.int .i64 (itemC it.3 next cs).2) ∧ CodeAt w' base C (itemC it.3 next cs).1 ∧ Below C w w'
theorem Fin.below {w w' : World} {H : Fins} {C : Nat} (h : Fin w H) (hC : ∀ g arr, H g = some arr → g < C) (hb : Below C w w') : Fin w' H := fun g arr hg => by
  rw [hb.block g (hC g arr hg)]
  exact h g arr hg
theorem itemC_len (x : Tr) (n : Nat) (c : List Stp) : c.length ≤ (itemC x n c).1.length := (frag_item [] x n c).len
theorem rowC_len (x : List Tr) (n : Nat) (c : List Stp) : c.length ≤ (rowC x n c).1.length := (frag_row [] x n c).len
theorem rowC_drop (r : List Tr) (n : Nat) (c : List Stp) : ∀ k, (rowC (r.drop k) n c).1.length ≤ (rowC r n c).1.length
  | 0 => by simp
  | k + 1 => by
    refine Nat.le_trans ?_ (rowC_drop r n c k)
    rcases Nat.lt_or_ge k r.length with h | h
    · rw [List.drop_eq_getElem_cons h, rowC]
      exact itemC_len _ _ _
    · rw [List.drop_eq_nil_of_le h, List.drop_eq_nil_of_le (by omega)]
      exact Nat.le_refl _

set_option maxHeartbeats 1600000 in
theorem crow_any (H : Fins) (d : Nat) (hI : ItemBuilt H d) (w : World) (base C : Nat) (cs : List Stp) (ra : Option Addr) (rn rc next : Nat) (its : List It) (hF : Fin w H) (hHC : ∀ g arr, H g = some arr → g < C) (hc : CodeAt w base C cs) (hR : RowFin (ItemOk H d) H ra rn its) (hlen : (rowC (its.map (·.3)) next cs).1.length ≤ 1000) :
    Calls Tryd.prog 16 #[.pointer (some ⟨C, 0, none⟩), .slice ra rn rc, .int .i64 next] w fun e w' => e = .returned (.int .i64 (rowC (its.map (·.3)) next cs).2) ∧ CodeAt w' base C (rowC (its.map (·.3)) next cs).1 ∧ Below C w w' := by
  obtain ⟨hln, hrn, hrow⟩ := hR
  have HI := hd hI
  have HF := hd hF
  have HC := hd hHC
  have Hrow := hd hrow
  have Hln := hd hln
  have Hlen := hd hlen
  clear hrow hln hI hF hHC hlen
  go_enter Tryd.func16, Tryd.ntmps16
  go_wp2
  go_loopw [7, 8] (fun en i wr => ∃ (k : Nat) (ee : Nat) (ll : List Stp), i = .int .i64 ((k : Int) - 1) ∧ en = .int .i64 ee ∧ k ≤ rn ∧ CodeAt wr base C ll ∧ Hid (Below C w wr) ∧ Hid (rowC ((its.map (·.3)).drop k) next cs = (ll, ee))) (fun _ i _ => (intOf i + 1).toNat)
  case atStart => exact ⟨rn, next, cs, rfl, rfl, Nat.le_refl _, hc, hd (Below.refl _ _), hd (by rw [List.drop_eq_nil_of_le (by rw [List.length_map, Hln.out]; exact Nat.le_refl _), rowC])⟩
  case round =>
    obtain ⟨k, ee, ll, rfl, rfl, hk, hcr, Hb, Hrc⟩ := hrel
    rcases Nat.eq_zero_or_pos k with h0 | h0
    · subst h0
      go_wp2
      go_ret
      have e := Hrc.out
      rw [List.drop_zero] at e
      rw [e]
      exact ⟨rfl, hcr, Hb.out⟩
    · obtain ⟨m, rfl⟩ : ∃ m, k = m + 1 := ⟨k - 1, by omega⟩
      obtain ⟨g, arr, hra, hg, hP⟩ : ∃ g arr, ra = some ⟨g, 0, none⟩ ∧ H g = some arr ∧ ∀ i (h : i < its.length), ItemOk H d (itemAt arr i) its[i] := by
        rcases Hrow.out with h | h
        · omega
        · exact h
      subst hra
      have hml : m < its.length := by rw [Hln.out]; omega
      have hF' := HF.out.below HC.out Hb.out
      have hstep : rowC ((its.map (·.3)).drop m) next cs = itemC its[m].3 ee ll := by
        rw [List.drop_eq_getElem_cons (by rw [List.length_map]; exact hml), rowC, Hrc.out, List.getElem_map]
      have hlm := rowC_drop (its.map (·.3)) next cs m
      rw [hstep] at hlm
      have Hcall := hd (HI.out wr base C ll g (m * 13) (itemAt arr m) its[m] ee hF' HC.out hcr (HC.out g arr hg) (fun j v hv => itemAt_cell (hF' g arr hg) m j v hv) (hP m hml) (Nat.le_trans hlm Hlen.out))
      have Hstep := hd hstep
      obtain ⟨ll2, ee2, hre⟩ : ∃ ll2 ee2, itemC its[m].3 ee ll = (ll2, ee2) := ⟨_, _, rfl⟩
      rw [hre] at Hstep Hcall
      have hm0 : (0 : Int) ≤ (m : Int) := by omega
      have hm1 : (m : Int) < (rn : Int) := by omega
      have hmm : ((m + 1 : Nat) : Int) - 1 = (m : Int) := by omega
      rw [hmm]
      clear hP hg hF' hstep hlm hre h0 hmm hcr
      go_wp2_with (go_at_call 28; refine Hcall.out.mono ?_; rintro e w' ⟨rfl, hc2, hb2⟩)
      go_roundw
      case rel => exact ⟨m, ee2, ll2, by go_num, rfl, by omega, hc2, hd (Hb.out.trans hb2), Hstep⟩
      case measure => simp [intOf]
end Go.Proofs.YtknckgibfbboaabDoor
namespace Go.Proofs.YtknckgibfbboaabDoor
open Go.RowKit

theorem owns_index {w : World} {base e size g n cap : Nat} {xs : List Value} (h : w.ownsRow base e size (.slice (some ⟨g, 0, none⟩) n cap) n xs) (j : Nat) (hj : j < n * size) : ∃ z, w.cell? ⟨g, j, none⟩ = some z ∧ w.frozen? ⟨g, j, none⟩ = false := by
  obtain ⟨cur, _, hg, _, _, _, hl, ht⟩ := owns_cells h
  obtain ⟨v, hv⟩ : ∃ v, xs[j]? = some v := ⟨xs[j]'(by omega), List.getElem?_eq_getElem _⟩
  exact ⟨v, owns_cell h j v hv, by simp [World.frozen?, hg]⟩
theorem set_flat {α : Type} (m : Nat) : ∀ (css : List (List α)) (i j : Nat) (c : List α) (v : α), (∀ c ∈ css, c.length = m) → css[i]? = some c → j < m → css.flatten.set (i * m + j) v = (css.set i (c.set j v)).flatten
  | [], i, j, c, v, _, h, _ => by simp at h
  | x :: r, 0, j, c, v, hl, h, hj => by
    simp at h
    subst h
    rw [Nat.zero_mul, Nat.zero_add, List.flatten_cons, List.set_append_left _ _ (by rw [hl x (by simp)]; exact hj), List.set_cons_zero, List.flatten_cons]
  | x :: r, i + 1, j, c, v, hl, h, hj => by
    have hx := hl x (by simp)
    rw [List.flatten_cons, List.set_append_right _ _ (by rw [hx, Nat.add_mul]; omega), hx, show (i + 1) * m + j - m = i * m + j by rw [Nat.add_mul]; omega, List.set_cons_succ, List.flatten_cons, set_flat m r i j c v (fun y hy => hl y (by simp [hy])) (by simpa using h) hj]
/-- one cell of a row that is owned is written anew -/
theorem owns_set1 {w : World} {base e size g n cap j : Nat} {xs : List Value} (h : w.ownsRow base e size (.slice (some ⟨g, 0, none⟩) n cap) n xs) (hj : j < xs.length) (v : Value) :
    (w.setCell ⟨g, j, none⟩ v).ownsRow base e size (.slice (some ⟨g, 0, none⟩) n cap) n (xs.set j v) := by
  have e : xs = xs.take j ++ [xs[j]] ++ xs.drop (j + 1) := by simp
  rw [e] at h
  have := owns_store (ps := xs.take j) (zs := [xs[j]]) (bs := xs.drop (j + 1)) (cs := [v]) (k := j) h (by simp; omega) rfl
  have e2 : xs.set j v = xs.take j ++ [v] ++ xs.drop (j + 1) := by
    rw [List.set_eq_take_append_cons_drop, if_pos hj]
    simp
  rw [e2]
  exact this
theorem StpsOk.set {css : List (List Value)} {cs : List Stp} {i : Nat} {c : List Value} {st : Stp} (h : StpsOk css cs) (hc : StpOk c st) : StpsOk (css.set i c) (cs.set i st) := by
  refine ⟨by simp [h.1], fun k c' st' h1 h2 => ?_⟩
  by_cases e : i = k
  · subst e
    have hi : i < css.length := by have := (List.getElem?_eq_some_iff.1 h1).1; simpa using this
    rw [List.getElem?_set_self hi] at h1
    rw [List.getElem?_set_self (by rw [← h.1]; exact hi)] at h2
    cases h1; cases h2
    exact hc
  · rw [List.getElem?_set_ne e] at h1 h2
    exact h.2 k c' st' h1 h2

theorem CodeAt.patch {w : World} {base C gs cap e ee next : Nat} {cs : List Stp} {css : List (List Value)} (h : CodeAt w base C cs) (h4 : w.cell? ⟨C, 0, none⟩ = some (.slice (some ⟨gs, 0, none⟩) cs.length cap)) (hgb : base ≤ gs)
    (hown : w.ownsRow base 63 11 (.slice (some ⟨gs, 0, none⟩) cs.length cap) cs.length css.flatten) (hcs : StpsOk css cs) (he : cs[e]? = some (.fork 0 next)) :
    CodeAt (w.setCell ⟨gs, e * 11 + 9, none⟩ (.int .i64 ee)) base C (cs.set e (.fork ee next)) := by
  have hC := h.hC
  have hel : e < cs.length := (List.getElem?_eq_some_iff.1 he).1
  have hec : e < css.length := by rw [hcs.1]; exact hel
  have hc := hcs.2 e css[e] _ (List.getElem?_eq_getElem hec) he
  obtain ⟨u, hu⟩ := h.c1
  refine ⟨hC, by simp [World.setCell]; exact h.hb, by rw [World.frozen?_setCell]; exact h.f0, by rw [World.frozen?_setCell]; exact h.f1, ⟨u, by rw [World.cell?_setCell_far _ _ _ _ (by show gs ≠ C; omega)]; exact hu⟩, _, css.set e (css[e].set 9 (.int .i64 ee)), by rw [World.cell?_setCell_far _ _ _ _ (by show gs ≠ C; omega)]; exact h4, ?_, hcs.set ?_⟩
  · have hfl := flat_len 11 css hcs.lens
    have := owns_set1 hown (j := e * 11 + 9) (by rw [hfl]; omega) (.int .i64 ee)
    rw [set_flat 11 css e 9 css[e] (.int .i64 ee) hcs.lens (List.getElem?_eq_getElem hec) (by omega)] at this
    simpa using this
  · have e1 : css[e] = stepCells 4 (fun _ => 0) 0 next := hc
    rw [e1]
    rfl

set_option maxHeartbeats 1600000 in
theorem cloop_any (H : Fins) (d : Nat) (hI : ItemBuilt H d) (w : World) (base C : Nat) (cs : List Stp) (g o : Nat) (ra : Option Addr) (rn rc next : Nat) (x : It) (hF : Fin w H) (hHC : ∀ g arr, H g = some arr → g < C) (hc : CodeAt w base C cs) (hgC : g < C)
    (h12 : w.cell? ⟨g, o + 12, none⟩ = some (.slice ra rn rc)) (hR : RowFin (ItemOk H d) H ra rn [x]) (hlen : (loopC (fun n c => itemC x.3 n c) next cs).1.length ≤ 1000) :
    Calls Tryd.prog 45 #[.pointer (some ⟨C, 0, none⟩), .pointer (some ⟨g, o, none⟩), .int .i64 next] w fun e w' => e = .returned (.int .i64 (loopC (fun n c => itemC x.3 n c) next cs).2) ∧ CodeAt w' base C (loopC (fun n c => itemC x.3 n c) next cs).1 ∧ Below C w w' := by
  simp only [loopC] at hlen ⊢
  simp only [List.length_set] at hlen
  have hl1 := itemC_len x.3 cs.length (cs ++ [.fork 0 next])
  simp only [List.length_append, List.length_singleton] at hl1
  have Hput := hd (put_c hc (by omega) 4 0 0 0 0 0 0 0 0 0 next (.fork 0 next) rfl)
  have Hrow := hd (fun w1 (hF1 : Fin w1 H) (hc1 : CodeAt w1 base C (cs ++ [.fork 0 next])) => crow_any H d hI w1 base C (cs ++ [.fork 0 next]) ra rn rc cs.length [x] hF1 hHC hc1 hR (by simp only [List.map_cons, List.map_nil, rowC]; exact hlen))
  simp only [List.map_cons, List.map_nil, rowC] at Hrow
  obtain ⟨ll, ee, hre⟩ : ∃ ll ee, itemC x.3 cs.length (cs ++ [.fork 0 next]) = (ll, ee) := ⟨_, _, rfl⟩
  have hpre := (frag_item [] x.3 cs.length (cs ++ [.fork 0 next])).pre cs.length (by simp)
  simp only at hpre
  rw [hre] at Hrow hlen hl1 hpre ⊢
  simp only at Hrow hlen hl1 hpre ⊢
  rw [List.getElem?_append_right (Nat.le_refl _)] at hpre
  simp at hpre
  have HF := hd hF
  have HC := hd hHC
  have Hpre := hd hpre
  clear hF hHC hI hR hc hre hpre
  go_enter Tryd.func45, Tryd.ntmps45
  go_wp2_with fail
  refine Hput.out.mono ?_
  rintro e w1 ⟨rfl, hc1, hb1⟩
  have Hc1 := hd (Hrow.out w1 (HF.out.below HC.out hb1) hc1)
  have g12 : w1.cell? ⟨g, o + 12, none⟩ = some (.slice ra rn rc) := (hb1.cell (by exact hgC)).trans h12
  have Hb1 := hd hb1
  clear hb1 h12 hc1
  go_wp2_with fail
  refine Hc1.out.mono ?_
  rintro e w2 ⟨rfl, hc2, hb2⟩
  obtain ⟨v, css, h4, hown, hcs⟩ := hc2.rows
  obtain ⟨gs, cap, rfl, hgb, hgl⟩ := hown.form (by omega)
  obtain ⟨z, hz, hzf⟩ := owns_index hown (cs.length * 11 + 9) (by omega)
  have hi0 : (0 : Int) ≤ (cs.length : Int) := by omega
  have hi1 : (cs.length : Int) < (ll.length : Int) := by omega
  have Hc2 := hd hc2
  have Hown := hd hown
  have Hcs := hd hcs
  have Hb2 := hd (Hb1.out.trans hb2)
  clear hc2 hown hcs hb2 g12
  go_wp2
  go_ret
  exact ⟨rfl, Hc2.out.patch h4 hgb Hown.out Hcs.out Hpre.out, Hb2.out.setCell (by have := Hc2.out.hC; show C ≤ gs; omega) _⟩

theorem forksC_mono {g : Nat → List Stp → List Stp × Nat} (hg : ∀ n c, c.length ≤ (g n c).1.length) (n e : Nat) (c : List Stp) : ∀ t k, (forksC g n t e c).1.length ≤ (forksC g n (t + k) e c).1.length
  | t, 0 => Nat.le_refl _
  | t, k + 1 => by
    refine Nat.le_trans (forksC_mono hg n e c t k) ?_
    rw [← Nat.add_assoc, forksC]
    simp only [List.length_append, List.length_singleton]
    have := hg (forksC g n (t + k) e c).2 (forksC g n (t + k) e c).1
    omega
theorem copiesC_mono {g : Nat → List Stp → List Stp × Nat} (hg : ∀ n c, c.length ≤ (g n c).1.length) (e : Nat) (c : List Stp) : ∀ t k, (copiesC g t e c).1.length ≤ (copiesC g (t + k) e c).1.length
  | t, 0 => Nat.le_refl _
  | t, k + 1 => by
    refine Nat.le_trans (copiesC_mono hg e c t k) ?_
    rw [← Nat.add_assoc, copiesC]
    exact hg _ _
theorem repC_eq (g : Nat → List Stp → List Stp × Nat) (a b : Int) (ha : 0 ≤ a) (n : Nat) (c c1 : List Stp) (e1 : Nat) (h1 : (if b = -1 then loopC g n c else (c, n)) = (c1, e1)) :
    repC g a b n c = copiesC g a.toNat (forksC g n (b - a).toNat e1 c1).2 (forksC g n (b - a).toNat e1 c1).1 := by
  unfold repC
  by_cases hb : b = -1
  · rw [if_pos hb] at h1 ⊢
    have : (b - a).toNat = 0 := by omega
    rw [this, forksC, h1]
  · rw [if_neg hb] at h1 ⊢
    cases h1
    rfl

set_option maxHeartbeats 3200000 in
theorem crep_any (H : Fins) (d : Nat) (hI : ItemBuilt H d) (w : World) (base C : Nat) (cs : List Stp) (g o : Nat) (least most : Int) (ra : Option Addr) (rn rc next : Nat) (x : It) (hF : Fin w H) (hHC : ∀ g arr, H g = some arr → g < C) (hc : CodeAt w base C cs) (hgC : g < C)
    (h10 : w.cell? ⟨g, o + 10, none⟩ = some (.int .i64 least)) (h11 : w.cell? ⟨g, o + 11, none⟩ = some (.int .i64 most)) (h12 : w.cell? ⟨g, o + 12, none⟩ = some (.slice ra rn rc)) (hl : 0 ≤ least ∧ least ≤ 20) (hm : -1 ≤ most ∧ most ≤ 20)
    (hR : RowFin (ItemOk H d) H ra rn [x]) (r : List Stp × Nat) (hr : repC (fun n c => itemC x.3 n c) least most next cs = r) (hlen : r.1.length ≤ 1000) :
    Calls Tryd.prog 40 #[.pointer (some ⟨C, 0, none⟩), .pointer (some ⟨g, o, none⟩), .int .i64 next] w fun e w' => e = .returned (.int .i64 r.2) ∧ CodeAt w' base C r.1 ∧ Below C w w' := by
  obtain ⟨c1, e1, h1⟩ : ∃ c1 e1, (if most = -1 then loopC (fun n c => itemC x.3 n c) next cs else (cs, next)) = (c1, e1) := ⟨_, _, rfl⟩
  rw [repC_eq _ _ _ hl.1 _ _ c1 e1 h1] at hr
  have hg : ∀ n c, c.length ≤ ((fun n c => itemC x.3 n c) n c).1.length := fun n c => itemC_len x.3 n c
  obtain ⟨c2, e2, h2⟩ : ∃ c2 e2, forksC (fun n c => itemC x.3 n c) next (most - least).toNat e1 c1 = (c2, e2) := ⟨_, _, rfl⟩
  rw [h2] at hr
  simp only at hr
  have hln2 : ∀ t, t ≤ least.toNat → (copiesC (fun n c => itemC x.3 n c) t e2 c2).1.length ≤ 1000 := fun t ht => by
    have := copiesC_mono hg e2 c2 t (least.toNat - t)
    rw [show t + (least.toNat - t) = least.toNat by omega, hr] at this
    omega
  have hln1 : ∀ t, t ≤ (most - least).toNat → (forksC (fun n c => itemC x.3 n c) next t e1 c1).1.length ≤ 1000 := fun t ht => by
    have := forksC_mono hg next e1 c1 t ((most - least).toNat - t)
    rw [show t + ((most - least).toNat - t) = (most - least).toNat by omega, h2] at this
    have h0 := hln2 0 (by omega)
    rw [copiesC] at h0
    omega
  have Hrow := hd (fun w1 cc nn (hF1 : Fin w1 H) (hc1 : CodeAt w1 base C cc) (hl1 : (itemC x.3 nn cc).1.length ≤ 1000) => crow_any H d hI w1 base C cc ra rn rc nn [x] hF1 hHC hc1 hR (by simp only [List.map_cons, List.map_nil, rowC]; exact hl1))
  simp only [List.map_cons, List.map_nil, rowC] at Hrow
  have Hloop := hd (fun hmo : most = -1 => cloop_any H d hI w base C cs g o ra rn rc next x hF hHC hc hgC h12 hR (by
    rw [if_pos hmo] at h1
    rw [h1]
    exact hln1 0 (by omega)))
  have HF := hd hF
  have HC := hd hHC
  have H1 := hd h1
  have H2 := hd h2
  have Hr := hd hr
  have Hln1 := hd hln1
  have Hln2 := hd hln2
  have h0 := hln1 0 (by omega)
  rw [forksC] at h0
  -- what the loops do, from the state behind the first step on
  have cellsOf' : ∀ wr, Below C w wr → wr.cell? ⟨g, o + 10, none⟩ = some (.int .i64 least) ∧ wr.cell? ⟨g, o + 11, none⟩ = some (.int .i64 most) ∧ wr.cell? ⟨g, o + 12, none⟩ = some (.slice ra rn rc) := fun _ hb => ⟨(hb.cell (by exact hgC)).trans h10, (hb.cell (by exact hgC)).trans h11, (hb.cell (by exact hgC)).trans h12⟩
  have Hcells := hd cellsOf'
  clear cellsOf' hF hHC hI hR h1 h2 hr hln1 hln2 hg h0
  by_cases hmo : most = -1
  · have hL := Hloop.out hmo
    have e0 := H1.out
    rw [if_pos hmo] at e0
    rw [e0] at hL
    simp only at hL
    have HL := hd hL
    clear hL e0
    subst hmo
    go_enter Tryd.func40, Tryd.ntmps40
    go_wp2_with fail
    refine HL.out.mono ?_
    rintro e W ⟨rfl, hcW, hbW⟩
    have HbW := hd hbW
    obtain ⟨g10, g11, g12⟩ := Hcells.out W HbW.out
    clear hbW h10 h11 h12
    go_wp2
    clear g10 g11 g12
    go_loopw [7, 8] (fun en k wr => ∃ (t : Nat) (ll : List Stp) (ee : Nat), k = .int .i64 (least + t) ∧ en = .int .i64 ee ∧ t ≤ ((-1) - least).toNat ∧ CodeAt wr base C ll ∧ Hid (Below C w wr) ∧ Hid (forksC (fun n c => itemC x.3 n c) next t e1 c1 = (ll, ee))) (fun _ k _ => ((-1) - intOf k).toNat)
    case atStart => exact ⟨0, c1, e1, by go_num, rfl, Nat.zero_le _, hcW, HbW, hd rfl⟩
    case round =>
      obtain ⟨t, ll, ee, rfl, rfl, ht, hcr, Hb, Hfk⟩ := hrel
      obtain ⟨g10, g11, g12⟩ := Hcells.out wr Hb.out
      by_cases hlt : least + t < (-1)
      · omega
      · have hte : ((-1) - least).toNat = t := by omega
        have H2' : Hid (ll = c2 ∧ ee = e2) := by
          have e0 := H2.out
          rw [hte, Hfk.out] at e0
          exact hd (by simpa using e0)
        obtain ⟨rfl, rfl⟩ := H2'.out
        go_wp2
        go_loopw [7, 10] (fun en k wr => ∃ (t : Nat) (l3 : List Stp) (e3 : Nat), k = .int .i64 t ∧ en = .int .i64 e3 ∧ t ≤ least.toNat ∧ CodeAt wr base C l3 ∧ Hid (Below C w wr) ∧ Hid (copiesC (fun n c => itemC x.3 n c) t ee ll = (l3, e3))) (fun _ k _ => (least - intOf k).toNat)
        case atStart => exact ⟨0, ll, ee, rfl, rfl, Nat.zero_le _, hcr, Hb, hd rfl⟩
        case round =>
          clear g10 g11 g12 hcr Hb
          obtain ⟨t2, l3, e3, rfl, rfl, ht2, hcr, Hb, Hcp⟩ := hrel
          obtain ⟨g10, g11, g12⟩ := Hcells.out wr Hb.out
          by_cases hlt2 : (t2 : Int) < least
          · obtain ⟨l4, e4, hg⟩ : ∃ l4 e4, itemC x.3 e3 l3 = (l4, e4) := ⟨_, _, rfl⟩
            have hnx : copiesC (fun n c => itemC x.3 n c) (t2 + 1) ee ll = (l4, e4) := by
              rw [copiesC, Hcp.out]
              exact hg
            have hl2 := Hln2.out (t2 + 1) (by omega)
            rw [hnx] at hl2
            have Hc1 := hd (Hrow.out wr l3 e3 (HF.out.below HC.out Hb.out) hcr (by rw [hg]; exact hl2))
            rw [hg] at Hc1
            simp only at Hc1
            have Hnx := hd hnx
            clear hnx hg hcr
            go_wp2_with fail
            refine Hc1.out.mono ?_
            rintro e w1 ⟨rfl, hc1, hb1⟩
            go_wp2
            go_roundw
            case rel => exact ⟨t2 + 1, l4, e4, by go_num, rfl, by omega, hc1, hd (Hb.out.trans hb1), Hnx⟩
            case measure => simp [intOf]; omega
          · have hte2 : least.toNat = t2 := by omega
            go_wp2
            go_ret
            have e0 := Hr.out
            rw [hte2, Hcp.out] at e0
            rw [← e0]
            exact ⟨rfl, hcr, Hb.out⟩
  · have e0 := H1.out
    rw [if_neg hmo] at e0
    simp only [Prod.mk.injEq] at e0
    obtain ⟨rfl, rfl⟩ := e0
    have hmb : (most == -1) = false := by simpa using hmo
    clear hmo
    go_enter Tryd.func40, Tryd.ntmps40
    have hcW := hc
    have HbW := hd (Below.refl C w)
    go_wp2
    clear h10 h11 h12 hc
    go_loopw [7, 8] (fun en k wr => ∃ (t : Nat) (ll : List Stp) (ee : Nat), k = .int .i64 (least + t) ∧ en = .int .i64 ee ∧ t ≤ (most - least).toNat ∧ CodeAt wr base C ll ∧ Hid (Below C w wr) ∧ Hid (forksC (fun n c => itemC x.3 n c) next t next cs = (ll, ee))) (fun _ k _ => (most - intOf k).toNat)
    case atStart => exact ⟨0, cs, next, by go_num, rfl, Nat.zero_le _, hcW, HbW, hd rfl⟩
    case round =>
      obtain ⟨t, ll, ee, rfl, rfl, ht, hcr, Hb, Hfk⟩ := hrel
      obtain ⟨g10, g11, g12⟩ := Hcells.out wr Hb.out
      by_cases hlt : least + t < most
      · obtain ⟨l2, ee2, hg⟩ : ∃ l2 ee2, itemC x.3 ee ll = (l2, ee2) := ⟨_, _, rfl⟩
        have hnx : forksC (fun n c => itemC x.3 n c) next (t + 1) next cs = (l2 ++ [.fork ee2 next], l2.length) := by
          rw [forksC, Hfk.out]
          simp only [hg]
        have hl2 := Hln1.out (t + 1) (by omega)
        rw [hnx] at hl2
        simp only [List.length_append, List.length_singleton] at hl2
        have Hc1 := hd (Hrow.out wr ll ee (HF.out.below HC.out Hb.out) hcr (by rw [hg]; show l2.length ≤ 1000; omega))
        rw [hg] at Hc1
        simp only at Hc1
        have Hnx := hd hnx
        clear hnx hg hcr
        go_wp2_with fail
        refine Hc1.out.mono ?_
        rintro e w1 ⟨rfl, hc1, hb1⟩
        have Hp := hd (put_c hc1 (by omega) 4 0 0 0 0 0 0 0 0 ee2 next (.fork ee2 next) rfl)
        have Hb1 := hd (Hb.out.trans hb1)
        clear hc1 hb1 g10 g11 g12
        go_wp2_with fail
        refine Hp.out.mono ?_
        rintro e w2 ⟨rfl, hc2, hb2⟩
        go_wp2
        go_roundw
        case rel => exact ⟨t + 1, _, l2.length, by go_num, rfl, by omega, hc2, hd (Hb1.out.trans hb2), Hnx⟩
        case measure => simp [intOf]; omega
      · have hte : (most - least).toNat = t := by omega
        have H2' : Hid (ll = c2 ∧ ee = e2) := by
          have e0 := H2.out
          rw [hte, Hfk.out] at e0
          exact hd (by simpa using e0)
        obtain ⟨rfl, rfl⟩ := H2'.out
        go_wp2
        go_loopw [7, 10] (fun en k wr => ∃ (t : Nat) (l3 : List Stp) (e3 : Nat), k = .int .i64 t ∧ en = .int .i64 e3 ∧ t ≤ least.toNat ∧ CodeAt wr base C l3 ∧ Hid (Below C w wr) ∧ Hid (copiesC (fun n c => itemC x.3 n c) t ee ll = (l3, e3))) (fun _ k _ => (least - intOf k).toNat)
        case atStart => exact ⟨0, ll, ee, rfl, rfl, Nat.zero_le _, hcr, Hb, hd rfl⟩
        case round =>
          clear g10 g11 g12 hcr Hb
          obtain ⟨t2, l3, e3, rfl, rfl, ht2, hcr, Hb, Hcp⟩ := hrel
          obtain ⟨g10, g11, g12⟩ := Hcells.out wr Hb.out
          by_cases hlt2 : (t2 : Int) < least
          · obtain ⟨l4, e4, hg⟩ : ∃ l4 e4, itemC x.3 e3 l3 = (l4, e4) := ⟨_, _, rfl⟩
            have hnx : copiesC (fun n c => itemC x.3 n c) (t2 + 1) ee ll = (l4, e4) := by
              rw [copiesC, Hcp.out]
              exact hg
            have hl2 := Hln2.out (t2 + 1) (by omega)
            rw [hnx] at hl2
            have Hc1 := hd (Hrow.out wr l3 e3 (HF.out.below HC.out Hb.out) hcr (by rw [hg]; exact hl2))
            rw [hg] at Hc1
            simp only at Hc1
            have Hnx := hd hnx
            clear hnx hg hcr
            go_wp2_with fail
            refine Hc1.out.mono ?_
            rintro e w1 ⟨rfl, hc1, hb1⟩
            go_wp2
            go_roundw
            case rel => exact ⟨t2 + 1, l4, e4, by go_num, rfl, by omega, hc1, hd (Hb.out.trans hb1), Hnx⟩
            case measure => simp [intOf]; omega
          · have hte2 : least.toNat = t2 := by omega
            go_wp2
            go_ret
            have e0 := Hr.out
            rw [hte2, Hcp.out] at e0
            rw [← e0]
            exact ⟨rfl, hcr, Hb.out⟩
end Go.Proofs.YtknckgibfbboaabDoor
