import Derived.Test.YtknckgibfbboaaaDoorNfa
import Derived.Test.YtknckgibfbboaaaDoorPut
/- The steps in memory. -/
namespace Go.Proofs.YtknckgibfbboaaaDoor
open Go.RowKit
attribute [local go_sem ↓] Go.wp_at_zero Go.wp_at_succ

theorem info_step : (Tryd.prog.info? 107).map (fun i => (i.zero, i.size, i.bytes)) = some (some (.agg #[.int .i64 0, .int .u32 0, .int .u32 0, .int .u32 0, .int .u32 0, .int .u32 0, .int .u32 0, .int .u32 0, .int .u32 0, .int .i64 0, .int .i64 0]), 11, 56) := by kernel_rfl
theorem there_cells11 {w : World} {g o : Nat} (h : w.there g o 11) : ∃ z0 z1 z2 z3 z4 z5 z6 z7 z8 z9 z10 : Value, w.cell? ⟨g, o, none⟩ = some z0 ∧ w.cell? ⟨g, o + 1, none⟩ = some z1 ∧ w.cell? ⟨g, o + 2, none⟩ = some z2 ∧ w.cell? ⟨g, o + 3, none⟩ = some z3 ∧ w.cell? ⟨g, o + 4, none⟩ = some z4 ∧ w.cell? ⟨g, o + 5, none⟩ = some z5 ∧ w.cell? ⟨g, o + 6, none⟩ = some z6 ∧ w.cell? ⟨g, o + 7, none⟩ = some z7 ∧ w.cell? ⟨g, o + 8, none⟩ = some z8 ∧ w.cell? ⟨g, o + 9, none⟩ = some z9 ∧ w.cell? ⟨g, o + 10, none⟩ = some z10 := by
  have H : ∀ j, j < 11 → ∃ z, w.cell? ⟨g, o + j, none⟩ = some z := fun j hj => Option.isSome_iff_exists.1 (h j hj).1
  obtain ⟨z0, e0⟩ := H 0 (by omega)
  obtain ⟨z1, e1⟩ := H 1 (by omega)
  obtain ⟨z2, e2⟩ := H 2 (by omega)
  obtain ⟨z3, e3⟩ := H 3 (by omega)
  obtain ⟨z4, e4⟩ := H 4 (by omega)
  obtain ⟨z5, e5⟩ := H 5 (by omega)
  obtain ⟨z6, e6⟩ := H 6 (by omega)
  obtain ⟨z7, e7⟩ := H 7 (by omega)
  obtain ⟨z8, e8⟩ := H 8 (by omega)
  obtain ⟨z9, e9⟩ := H 9 (by omega)
  obtain ⟨z10, e10⟩ := H 10 (by omega)
  exact ⟨z0, z1, z2, z3, z4, z5, z6, z7, z8, z9, z10, e0, e1, e2, e3, e4, e5, e6, e7, e8, e9, e10⟩
theorem there_free11 {w : World} {g o : Nat} (h : w.there g o 11) : w.frozen? ⟨g, o, none⟩ = false ∧ w.frozen? ⟨g, o + 1, none⟩ = false ∧ w.frozen? ⟨g, o + 2, none⟩ = false ∧ w.frozen? ⟨g, o + 3, none⟩ = false ∧ w.frozen? ⟨g, o + 4, none⟩ = false ∧ w.frozen? ⟨g, o + 5, none⟩ = false ∧ w.frozen? ⟨g, o + 6, none⟩ = false ∧ w.frozen? ⟨g, o + 7, none⟩ = false ∧ w.frozen? ⟨g, o + 8, none⟩ = false ∧ w.frozen? ⟨g, o + 9, none⟩ = false ∧ w.frozen? ⟨g, o + 10, none⟩ = false :=
  ⟨(h 0 (by omega)).2, (h 1 (by omega)).2, (h 2 (by omega)).2, (h 3 (by omega)).2, (h 4 (by omega)).2, (h 5 (by omega)).2, (h 6 (by omega)).2, (h 7 (by omega)).2, (h 8 (by omega)).2, (h 9 (by omega)).2, (h 10 (by omega)).2⟩
theorem chain11 (w : World) (g o : Nat) (u0 u1 u2 u3 u4 u5 u6 u7 u8 u9 u10 : Value) : (((((((((((w.setCell ⟨g, o, none⟩ u0).setCell ⟨g, o + 1, none⟩ u1).setCell ⟨g, o + 2, none⟩ u2).setCell ⟨g, o + 3, none⟩ u3).setCell ⟨g, o + 4, none⟩ u4).setCell ⟨g, o + 5, none⟩ u5).setCell ⟨g, o + 6, none⟩ u6).setCell ⟨g, o + 7, none⟩ u7).setCell ⟨g, o + 8, none⟩ u8).setCell ⟨g, o + 9, none⟩ u9).setCell ⟨g, o + 10, none⟩ u10) = w.setCells g o [u0, u1, u2, u3, u4, u5, u6, u7, u8, u9, u10] := rfl
/-- what put leaves, of the steps -/
def CPut (w w' : World) (R base : Nat) (v : Value) (n : Nat) (xs cs : List Value) : Prop :=
  ∃ g cap, w'.cell? ⟨R, 0, none⟩ = some (.slice (some ⟨g, 0, none⟩) (n + 1) cap) ∧ w'.ownsRow base 107 11 (.slice (some ⟨g, 0, none⟩) (n + 1) cap) (n + 1) (xs ++ cs) ∧
    (v.ownBlock = some g ∨ w.heap.size ≤ g) ∧ g < w'.heap.size ∧ Ch w w' R v.ownBlock [0]
theorem cput_mid {w w1 : World} {R base g n cap : Nat} {v r4 : Value} {xs cs : List Value} {o1 o2 : Obj} (hR : R < base) (hbase : base ≤ w.heap.size) (ag : v.ownBlock ≠ some R)
    (hown1 : w1.ownsRow base 107 11 (.slice (some ⟨g, 0, none⟩) (n + 1) cap) (n + 1) (xs ++ cs)) (hgrow : ((w.alloc o1).alloc o2).drew.grownBy w1 v.ownBlock) (hat : v.ownBlock = some g ∨ g = w.heap.size + 1 + 1) (hlt : g < w1.heap.size)
    (h4 : w1.cell? ⟨R, 0, none⟩ = some r4) :
    CPut w (w1.setCell ⟨R, 0, none⟩ (.slice (some ⟨g, 0, none⟩) (n + 1) cap)) R base v n xs cs := by
  have hg : g ≠ R := by
    have := (owns_cells hown1).choose_spec.1
    omega
  have hat' : v.ownBlock = some g ∨ w.heap.size ≤ g := by
    rcases hat with h | h
    · exact .inl h
    · right; omega
  exact ⟨g, cap, World.cell?_setCell_same _ _ _ h4, ownsRow_setCell_other hown1 (by simp [Value.ownBlock]; exact hg) _, hat', by simp [World.setCell]; exact hlt, (((((Ch.refl w R v.ownBlock [0]).alloc (by omega) o1).alloc (by omega) o2).drew).grown hgrow (by omega) ag).put 0 (by simp) _⟩

set_option maxRecDepth 100000 in
set_option maxHeartbeats 6400000 in
theorem cput_any (R : Nat) (ao : Option Addr) (n cp base : Nat) (xs : List Value) (w : World) (k a0 a1 a2 a3 a4 a5 a6 a7 nx ot : Int)
    (h4 : w.cell? ⟨R, 0, none⟩ = some (.slice ao n cp)) (f4 : w.frozen? ⟨R, 0, none⟩ = false)
    (hown : w.ownsRow base 107 11 (.slice ao n cp) n xs) (hbase : base ≤ w.heap.size) (hn : n ≤ 1000) (hR : R < base) :
    Calls Tryd.prog 39 #[.pointer (some ⟨R, 0, none⟩), .agg #[.int .i64 k, .int .u32 a0, .int .u32 a1, .int .u32 a2, .int .u32 a3, .int .u32 a4, .int .u32 a5, .int .u32 a6, .int .u32 a7, .int .i64 nx, .int .i64 ot]] w fun e w' => e = .returned (.int .i64 n) ∧ CPut w w' R base (.slice ao n cp) n xs [Value.int .i64 k, .int .u32 a0, .int .u32 a1, .int .u32 a2, .int .u32 a3, .int .u32 a4, .int .u32 a5, .int .u32 a6, .int .u32 a7, .int .i64 nx, .int .i64 ot] := by
  obtain ⟨i0, hi0, hz0, hz1, hz2⟩ := info_parts info_step
  have lR := World.block_lt_of_cell? w _ h4
  have ag : (Value.slice ao n cp).ownBlock ≠ some R := by
    intro e
    have := (hown.lt R e).1
    omega
  go_enter Tryd.func39, Tryd.ntmps39
  go_wp2_with fail
  have nR4 := World.new_ne w ⟨R, 0, none⟩ h4
  have agB : some w.heap.size ≠ (Value.slice ao n cp).ownBlock := by
    intro e
    have := (hown.lt _ e.symm).2
    omega
  have hn0 : (0 : Int) ≤ (n : Int) := Int.natCast_nonneg _
  have hn1 : (n : Int) < (n : Int) + 1 := by omega
  go_region_law
    ((refine step_append_lies _ (by rfl) _ _ _ (by rfl) base 107 i0 _ 11 56 Tryd.underlying49 hi0 hz0 hz1 hz2 rfl (by omega) (.slice ao n cp) n xs (by rfl) (((hown.alloc _).alloc _).drew)
        ⟨w.heap.size + 1, 0, none⟩ 1 1 [.int .i64 k, .int .u32 a0, .int .u32 a1, .int .u32 a2, .int .u32 a3, .int .u32 a4, .int .u32 a5, .int .u32 a6, .int .u32 a7, .int .i64 nx, .int .i64 ot] (by rfl) (by rfl) (World.news_of_block (cs := #[.int .i64 k, .int .u32 a0, .int .u32 a1, .int .u32 a2, .int .u32 a3, .int .u32 a4, .int .u32 a5, .int .u32 a6, .int .u32 a7, .int .i64 nx, .int .i64 ot]) (t := 107) (fr := (0, 0)) (heap_two w _ _)) (by simp [Value.oneCell'])
        (by omega) (by unfold maxLen; omega) (by omega) (by simp; omega) (w.heap.size + 1 + 1) (by simp) ?_; intro g cap w1 hown1 hgrow hat hlt; have r4 : w1.cell? ⟨R, 0, none⟩ = some (.slice ao n cp) := (hgrow.cell_far _ (by simp; omega) (Ne.symm ag)).trans (by go_keep); have rf4 : w1.frozen? ⟨R, 0, none⟩ = false := (hgrow.frozen_far _ (by simp; omega) (Ne.symm ag)).trans (frozen_two w _ _ _ _ lR f4); have gB : g ≠ w.heap.size := (by rintro rfl; rcases hat with hat | hat; exact agB hat.symm; omega); have gR : g ≠ R := (by rintro rfl; rcases hat with hat | hat; exact ag hat; omega)))
  all_goals
    have hM := cput_mid (cs := [Value.int .i64 k, .int .u32 a0, .int .u32 a1, .int .u32 a2, .int .u32 a3, .int .u32 a4, .int .u32 a5, .int .u32 a6, .int .u32 a7, .int .i64 nx, .int .i64 ot]) hR hbase ag hown1 hgrow hat hlt r4
    generalize w1.setCell ⟨R, 0, none⟩ (.slice (some ⟨g, 0, none⟩) (n + 1) cap) = W at hM ⊢
    clear hown1 hgrow hat hlt r4 rf4 gB gR
    have HM := hd hM
    clear hM
    go_wp2
    go_ret
    exact ⟨rfl, HM.out⟩
end Go.Proofs.YtknckgibfbboaaaDoor
