import Derived.Test.YtldiemjlpnachaaDoorSds
import Derived.Test.YtldiemjlpnachaaDoorOwn
import Derived.Test.YtldiemjlpnachaaDoorRd
import Derived.Deep.LoopGhost
/- The steps in memory. -/
namespace Go.Proofs.YtldiemjlpnachaaDoor
open Go.RowKit
attribute [local go_sem ↓] Go.wp_at_zero Go.wp_at_succ

theorem info_step : (Tryd.prog.info? 119).map (fun i => (i.zero, i.size, i.bytes)) = some (some (.agg #[.int .i64 0, .int .u32 0, .int .u32 0, .int .u32 0, .int .u32 0, .int .u32 0, .int .u32 0, .int .u32 0, .int .u32 0, .int .i64 0, .int .i64 0, .int .i64 0, .int .i64 0, .int .i64 0]), 14, 80) := by kernel_rfl
/-- what put leaves, of the steps -/
def CPut (w w' : World) (R base : Nat) (v : Value) (n : Nat) (lv : Int) (xs cs : List Value) : Prop :=
  ∃ g cap, w'.cell? ⟨R, 0, none⟩ = some (.slice (some ⟨g, 0, none⟩) (n + 1) cap) ∧ w'.cell? ⟨R, 3, none⟩ = some (.int .i64 lv) ∧ w'.ownsRow base 119 14 (.slice (some ⟨g, 0, none⟩) (n + 1) cap) (n + 1) (xs ++ cs) ∧
    (v.ownBlock = some g ∨ w.heap.size ≤ g) ∧ g < w'.heap.size ∧ Ch w w' R v.ownBlock [0, 3]

theorem cput_mid {w W0 w1 : World} {R base g n cap : Nat} {lv : Int} {v r4 : Value} {xs cs : List Value} {o2 : Obj} (hR : R < base) (hbase : base ≤ w.heap.size) (ag : v.ownBlock ≠ some R) (hch : Ch w W0 R v.ownBlock [0, 3])
    (hown1 : w1.ownsRow base 119 14 (.slice (some ⟨g, 0, none⟩) (n + 1) cap) (n + 1) (xs ++ cs)) (hgrow : (W0.alloc o2).drew.grownBy w1 v.ownBlock) (hat : v.ownBlock = some g ∨ g = W0.heap.size + 1) (hlt : g < w1.heap.size)
    (h4 : w1.cell? ⟨R, 0, none⟩ = some r4) (h3 : w1.cell? ⟨R, 3, none⟩ = some (.int .i64 lv)) :
    CPut w (w1.setCell ⟨R, 0, none⟩ (.slice (some ⟨g, 0, none⟩) (n + 1) cap)) R base v n lv xs cs := by
  have hg : g ≠ R := by
    have := (owns_cells hown1).choose_spec.1
    omega
  have hat' : v.ownBlock = some g ∨ w.heap.size ≤ g := by
    rcases hat with h | h
    · exact .inl h
    · right; have := hch.size; omega
  exact ⟨g, cap, World.cell?_setCell_same _ _ _ h4, by rw [World.cell?_setCell_other _ _ _ _ (by simp)]; exact h3, ownsRow_setCell_other hown1 (by simp [Value.ownBlock]; exact hg) _, hat', by simp [World.setCell]; exact hlt, ((hch.alloc (by omega) o2).drew.grown hgrow (by omega) ag).put 0 (by simp) _⟩

set_option maxRecDepth 100000 in
set_option maxHeartbeats 6400000 in
theorem cput_any (R : Nat) (ao : Option Addr) (n cp base dd lv : Nat) (xs : List Value) (w : World) (k a0 a1 a2 a3 a4 a5 a6 a7 sl nx ot : Int)
    (h4 : w.cell? ⟨R, 0, none⟩ = some (.slice ao n cp)) (f4 : w.frozen? ⟨R, 0, none⟩ = false) (h3 : w.cell? ⟨R, 3, none⟩ = some (.int .i64 lv)) (f3 : w.frozen? ⟨R, 3, none⟩ = false) (h5 : w.cell? ⟨R, 5, none⟩ = some (.int .i64 dd))
    (hown : w.ownsRow base 119 14 (.slice ao n cp) n xs) (hbase : base ≤ w.heap.size) (hn : n ≤ 1000) (hR : R < base) (hdd : dd ≤ 300) (hlv : lv ≤ 1000000) :
    Calls Tryd.prog 47 #[.pointer (some ⟨R, 0, none⟩), .agg #[.int .i64 k, .int .u32 a0, .int .u32 a1, .int .u32 a2, .int .u32 a3, .int .u32 a4, .int .u32 a5, .int .u32 a6, .int .u32 a7, .int .i64 sl, .int .i64 nx, .int .i64 ot, .int .i64 0, .int .i64 0]] w fun e w' => e = .returned (.int .i64 n) ∧ CPut w w' R base (.slice ao n cp) n ((lv : Int) + dd + 1) xs [Value.int .i64 k, .int .u32 a0, .int .u32 a1, .int .u32 a2, .int .u32 a3, .int .u32 a4, .int .u32 a5, .int .u32 a6, .int .u32 a7, .int .i64 sl, .int .i64 nx, .int .i64 ot, .int .i64 dd, .int .i64 lv] := by
  obtain ⟨i0, hi0, hz0, hz1, hz2⟩ := info_parts info_step
  have lR := World.block_lt_of_cell? w _ h4
  have ag : (Value.slice ao n cp).ownBlock ≠ some R := by
    intro e
    have := (hown.lt R e).1
    omega
  go_enter Tryd.func47, Tryd.ntmps47
  go_wp2_with fail
  go_region
  go_wp2_with fail
  have nz : (w.setCell ⟨R, 3, none⟩ (.int .i64 ((lv : Int) + ((dd : Int) + 1)))).heap.size = w.heap.size := by simp [World.setCell]
  have e0 : ((w.setCell ⟨R, 3, none⟩ (.int .i64 ((lv : Int) + ((dd : Int) + 1)))).alloc (.cells #[.int .i64 k, .int .u32 a0, .int .u32 a1, .int .u32 a2, .int .u32 a3, .int .u32 a4, .int .u32 a5, .int .u32 a6, .int .u32 a7, .int .i64 sl, .int .i64 nx, .int .i64 ot, .int .i64 dd, .int .i64 lv] 119)).drew.cell? ⟨w.heap.size, 0, none⟩ = some (.int .i64 k) := World.cell?_alloc_at _ _ _ _ nz.symm
  have e1 : ((w.setCell ⟨R, 3, none⟩ (.int .i64 ((lv : Int) + ((dd : Int) + 1)))).alloc (.cells #[.int .i64 k, .int .u32 a0, .int .u32 a1, .int .u32 a2, .int .u32 a3, .int .u32 a4, .int .u32 a5, .int .u32 a6, .int .u32 a7, .int .i64 sl, .int .i64 nx, .int .i64 ot, .int .i64 dd, .int .i64 lv] 119)).drew.cell? ⟨w.heap.size, 1, none⟩ = some (.int .u32 a0) := World.cell?_alloc_at _ _ _ _ nz.symm
  have e2 : ((w.setCell ⟨R, 3, none⟩ (.int .i64 ((lv : Int) + ((dd : Int) + 1)))).alloc (.cells #[.int .i64 k, .int .u32 a0, .int .u32 a1, .int .u32 a2, .int .u32 a3, .int .u32 a4, .int .u32 a5, .int .u32 a6, .int .u32 a7, .int .i64 sl, .int .i64 nx, .int .i64 ot, .int .i64 dd, .int .i64 lv] 119)).drew.cell? ⟨w.heap.size, 2, none⟩ = some (.int .u32 a1) := World.cell?_alloc_at _ _ _ _ nz.symm
  have e3 : ((w.setCell ⟨R, 3, none⟩ (.int .i64 ((lv : Int) + ((dd : Int) + 1)))).alloc (.cells #[.int .i64 k, .int .u32 a0, .int .u32 a1, .int .u32 a2, .int .u32 a3, .int .u32 a4, .int .u32 a5, .int .u32 a6, .int .u32 a7, .int .i64 sl, .int .i64 nx, .int .i64 ot, .int .i64 dd, .int .i64 lv] 119)).drew.cell? ⟨w.heap.size, 3, none⟩ = some (.int .u32 a2) := World.cell?_alloc_at _ _ _ _ nz.symm
  have e4 : ((w.setCell ⟨R, 3, none⟩ (.int .i64 ((lv : Int) + ((dd : Int) + 1)))).alloc (.cells #[.int .i64 k, .int .u32 a0, .int .u32 a1, .int .u32 a2, .int .u32 a3, .int .u32 a4, .int .u32 a5, .int .u32 a6, .int .u32 a7, .int .i64 sl, .int .i64 nx, .int .i64 ot, .int .i64 dd, .int .i64 lv] 119)).drew.cell? ⟨w.heap.size, 4, none⟩ = some (.int .u32 a3) := World.cell?_alloc_at _ _ _ _ nz.symm
  have e5 : ((w.setCell ⟨R, 3, none⟩ (.int .i64 ((lv : Int) + ((dd : Int) + 1)))).alloc (.cells #[.int .i64 k, .int .u32 a0, .int .u32 a1, .int .u32 a2, .int .u32 a3, .int .u32 a4, .int .u32 a5, .int .u32 a6, .int .u32 a7, .int .i64 sl, .int .i64 nx, .int .i64 ot, .int .i64 dd, .int .i64 lv] 119)).drew.cell? ⟨w.heap.size, 5, none⟩ = some (.int .u32 a4) := World.cell?_alloc_at _ _ _ _ nz.symm
  have e6 : ((w.setCell ⟨R, 3, none⟩ (.int .i64 ((lv : Int) + ((dd : Int) + 1)))).alloc (.cells #[.int .i64 k, .int .u32 a0, .int .u32 a1, .int .u32 a2, .int .u32 a3, .int .u32 a4, .int .u32 a5, .int .u32 a6, .int .u32 a7, .int .i64 sl, .int .i64 nx, .int .i64 ot, .int .i64 dd, .int .i64 lv] 119)).drew.cell? ⟨w.heap.size, 6, none⟩ = some (.int .u32 a5) := World.cell?_alloc_at _ _ _ _ nz.symm
  have e7 : ((w.setCell ⟨R, 3, none⟩ (.int .i64 ((lv : Int) + ((dd : Int) + 1)))).alloc (.cells #[.int .i64 k, .int .u32 a0, .int .u32 a1, .int .u32 a2, .int .u32 a3, .int .u32 a4, .int .u32 a5, .int .u32 a6, .int .u32 a7, .int .i64 sl, .int .i64 nx, .int .i64 ot, .int .i64 dd, .int .i64 lv] 119)).drew.cell? ⟨w.heap.size, 7, none⟩ = some (.int .u32 a6) := World.cell?_alloc_at _ _ _ _ nz.symm
  have e8 : ((w.setCell ⟨R, 3, none⟩ (.int .i64 ((lv : Int) + ((dd : Int) + 1)))).alloc (.cells #[.int .i64 k, .int .u32 a0, .int .u32 a1, .int .u32 a2, .int .u32 a3, .int .u32 a4, .int .u32 a5, .int .u32 a6, .int .u32 a7, .int .i64 sl, .int .i64 nx, .int .i64 ot, .int .i64 dd, .int .i64 lv] 119)).drew.cell? ⟨w.heap.size, 8, none⟩ = some (.int .u32 a7) := World.cell?_alloc_at _ _ _ _ nz.symm
  have e9 : ((w.setCell ⟨R, 3, none⟩ (.int .i64 ((lv : Int) + ((dd : Int) + 1)))).alloc (.cells #[.int .i64 k, .int .u32 a0, .int .u32 a1, .int .u32 a2, .int .u32 a3, .int .u32 a4, .int .u32 a5, .int .u32 a6, .int .u32 a7, .int .i64 sl, .int .i64 nx, .int .i64 ot, .int .i64 dd, .int .i64 lv] 119)).drew.cell? ⟨w.heap.size, 9, none⟩ = some (.int .i64 sl) := World.cell?_alloc_at _ _ _ _ nz.symm
  have e10 : ((w.setCell ⟨R, 3, none⟩ (.int .i64 ((lv : Int) + ((dd : Int) + 1)))).alloc (.cells #[.int .i64 k, .int .u32 a0, .int .u32 a1, .int .u32 a2, .int .u32 a3, .int .u32 a4, .int .u32 a5, .int .u32 a6, .int .u32 a7, .int .i64 sl, .int .i64 nx, .int .i64 ot, .int .i64 dd, .int .i64 lv] 119)).drew.cell? ⟨w.heap.size, 10, none⟩ = some (.int .i64 nx) := World.cell?_alloc_at _ _ _ _ nz.symm
  have e11 : ((w.setCell ⟨R, 3, none⟩ (.int .i64 ((lv : Int) + ((dd : Int) + 1)))).alloc (.cells #[.int .i64 k, .int .u32 a0, .int .u32 a1, .int .u32 a2, .int .u32 a3, .int .u32 a4, .int .u32 a5, .int .u32 a6, .int .u32 a7, .int .i64 sl, .int .i64 nx, .int .i64 ot, .int .i64 dd, .int .i64 lv] 119)).drew.cell? ⟨w.heap.size, 11, none⟩ = some (.int .i64 ot) := World.cell?_alloc_at _ _ _ _ nz.symm
  have e12 : ((w.setCell ⟨R, 3, none⟩ (.int .i64 ((lv : Int) + ((dd : Int) + 1)))).alloc (.cells #[.int .i64 k, .int .u32 a0, .int .u32 a1, .int .u32 a2, .int .u32 a3, .int .u32 a4, .int .u32 a5, .int .u32 a6, .int .u32 a7, .int .i64 sl, .int .i64 nx, .int .i64 ot, .int .i64 dd, .int .i64 lv] 119)).drew.cell? ⟨w.heap.size, 12, none⟩ = some (.int .i64 dd) := World.cell?_alloc_at _ _ _ _ nz.symm
  have e13 : ((w.setCell ⟨R, 3, none⟩ (.int .i64 ((lv : Int) + ((dd : Int) + 1)))).alloc (.cells #[.int .i64 k, .int .u32 a0, .int .u32 a1, .int .u32 a2, .int .u32 a3, .int .u32 a4, .int .u32 a5, .int .u32 a6, .int .u32 a7, .int .i64 sl, .int .i64 nx, .int .i64 ot, .int .i64 dd, .int .i64 lv] 119)).drew.cell? ⟨w.heap.size, 13, none⟩ = some (.int .i64 lv) := World.cell?_alloc_at _ _ _ _ nz.symm
  have c0 : ((w.setCell ⟨R, 3, none⟩ (.int .i64 ((lv : Int) + ((dd : Int) + 1)))).alloc (.cells #[.int .i64 k, .int .u32 a0, .int .u32 a1, .int .u32 a2, .int .u32 a3, .int .u32 a4, .int .u32 a5, .int .u32 a6, .int .u32 a7, .int .i64 sl, .int .i64 nx, .int .i64 ot, .int .i64 dd, .int .i64 lv] 119)).drew.cell? ⟨R, 0, none⟩ = some (.slice ao n cp) := (World.cell?_alloc_lt _ _ _ (by rw [nz]; exact lR)).trans ((World.cell?_setCell_other _ _ _ _ (by simp)).trans h4)
  have c3 : ((w.setCell ⟨R, 3, none⟩ (.int .i64 ((lv : Int) + ((dd : Int) + 1)))).alloc (.cells #[.int .i64 k, .int .u32 a0, .int .u32 a1, .int .u32 a2, .int .u32 a3, .int .u32 a4, .int .u32 a5, .int .u32 a6, .int .u32 a7, .int .i64 sl, .int .i64 nx, .int .i64 ot, .int .i64 dd, .int .i64 lv] 119)).drew.cell? ⟨R, 3, none⟩ = some (.int .i64 ((lv : Int) + ((dd : Int) + 1))) := (World.cell?_alloc_lt _ _ _ (by rw [nz]; exact lR)).trans (World.cell?_setCell_same _ _ _ h3)
  have k0 : ((w.setCell ⟨R, 3, none⟩ (.int .i64 ((lv : Int) + ((dd : Int) + 1)))).alloc (.cells #[.int .i64 k, .int .u32 a0, .int .u32 a1, .int .u32 a2, .int .u32 a3, .int .u32 a4, .int .u32 a5, .int .u32 a6, .int .u32 a7, .int .i64 sl, .int .i64 nx, .int .i64 ot, .int .i64 dd, .int .i64 lv] 119)).drew.frozen? ⟨R, 0, none⟩ = false := (World.frozen?_alloc_old _ _ _ (by rw [nz]; show R ≠ _; omega)).trans ((World.frozen?_setCell _ _ _ _).trans f4)
  have hch0 : Ch w ((w.setCell ⟨R, 3, none⟩ (.int .i64 ((lv : Int) + ((dd : Int) + 1)))).alloc (.cells #[.int .i64 k, .int .u32 a0, .int .u32 a1, .int .u32 a2, .int .u32 a3, .int .u32 a4, .int .u32 a5, .int .u32 a6, .int .u32 a7, .int .i64 sl, .int .i64 nx, .int .i64 ot, .int .i64 dd, .int .i64 lv] 119)).drew R (Value.slice ao n cp).ownBlock [0, 3] := (((Ch.refl w R (Value.slice ao n cp).ownBlock [0, 3]).put 3 (by simp) _).alloc (by omega) _).drew
  have hown0 : ((w.setCell ⟨R, 3, none⟩ (.int .i64 ((lv : Int) + ((dd : Int) + 1)))).alloc (.cells #[.int .i64 k, .int .u32 a0, .int .u32 a1, .int .u32 a2, .int .u32 a3, .int .u32 a4, .int .u32 a5, .int .u32 a6, .int .u32 a7, .int .i64 sl, .int .i64 nx, .int .i64 ot, .int .i64 dd, .int .i64 lv] 119)).drew.ownsRow base 119 14 (.slice ao n cp) n xs := ((ownsRow_setCell_other hown (by simpa using ag) _).alloc _).drew
  have hsz0 : ((w.setCell ⟨R, 3, none⟩ (.int .i64 ((lv : Int) + ((dd : Int) + 1)))).alloc (.cells #[.int .i64 k, .int .u32 a0, .int .u32 a1, .int .u32 a2, .int .u32 a3, .int .u32 a4, .int .u32 a5, .int .u32 a6, .int .u32 a7, .int .i64 sl, .int .i64 nx, .int .i64 ot, .int .i64 dd, .int .i64 lv] 119)).drew.heap.size = w.heap.size + 1 := by show ((w.setCell _ _).alloc _).heap.size = _; simp [World.setCell]
  have agT : (Value.slice ao n cp).ownBlock ≠ some w.heap.size := by
    intro e
    have := (hown.lt _ e).2
    omega
  clear h3 h4 h5 f3 f4 hown nz
  generalize hW0 : ((w.setCell ⟨R, 3, none⟩ (.int .i64 ((lv : Int) + ((dd : Int) + 1)))).alloc (.cells #[.int .i64 k, .int .u32 a0, .int .u32 a1, .int .u32 a2, .int .u32 a3, .int .u32 a4, .int .u32 a5, .int .u32 a6, .int .u32 a7, .int .i64 sl, .int .i64 nx, .int .i64 ot, .int .i64 dd, .int .i64 lv] 119)).drew = W0 at *
  clear hW0
  generalize hT : w.heap.size = T at *
  have hbase' : base ≤ W0.heap.size := by omega
  have lR0 : R < W0.heap.size := by omega
  have Hb := hd hbase
  have Hs := hd hsz0
  have HT := hd hT
  have agB : some W0.heap.size ≠ (Value.slice ao n cp).ownBlock := by
    intro e
    have := (hown0.lt _ e.symm).2
    omega
  have hn0 : (0 : Int) ≤ (n : Int) := Int.natCast_nonneg _
  have hn1 : (n : Int) < (n : Int) + 1 := by omega
  have hTR : T ≠ R := by omega
  clear hsz0 hbase hT
  go_region_law
    ((refine step_append_lies _ (by rfl) _ _ _ (by rfl) base 119 i0 _ 14 80 Tryd.underlying61 hi0 hz0 hz1 hz2 rfl (by omega) (.slice ao n cp) n xs (by rfl) ((hown0.alloc _).drew)
        ⟨W0.heap.size, 0, none⟩ 1 1 [.int .i64 k, .int .u32 a0, .int .u32 a1, .int .u32 a2, .int .u32 a3, .int .u32 a4, .int .u32 a5, .int .u32 a6, .int .u32 a7, .int .i64 sl, .int .i64 nx, .int .i64 ot, .int .i64 dd, .int .i64 lv] (by rfl) (by rfl) (World.news_of_block (cs := #[.int .i64 k, .int .u32 a0, .int .u32 a1, .int .u32 a2, .int .u32 a3, .int .u32 a4, .int .u32 a5, .int .u32 a6, .int .u32 a7, .int .i64 sl, .int .i64 nx, .int .i64 ot, .int .i64 dd, .int .i64 lv]) (t := 119) (fr := (0, 0)) (heap_alloc_new W0 _)) (by simp [Value.oneCell'])
        (by omega) (by unfold maxLen; omega) (by omega) (by simp; omega) (W0.heap.size + 1) (by simp) ?_; intro g cap w1 hown1 hgrow hat hlt; have r4 : w1.cell? ⟨R, 0, none⟩ = some (.slice ao n cp) := (hgrow.cell_far _ (by simp; omega) (Ne.symm ag)).trans (by go_keep); have r3 : w1.cell? ⟨R, 3, none⟩ = some (.int .i64 ((lv : Int) + ((dd : Int) + 1))) := (hgrow.cell_far _ (by simp; omega) (Ne.symm ag)).trans (by go_keep); have rf4 : w1.frozen? ⟨R, 0, none⟩ = false := (hgrow.frozen_far _ (by simp; omega) (Ne.symm ag)).trans ((World.frozen?_alloc_old _ _ _ (by show R ≠ _; omega)).trans k0); have gB : g ≠ W0.heap.size := (by rintro rfl; rcases hat with hat | hat; exact agB hat.symm; omega); have gR : g ≠ R := (by rintro rfl; rcases hat with hat | hat; exact ag hat; omega)))
  all_goals
    have hM := cput_mid (w := w) (cs := [Value.int .i64 k, .int .u32 a0, .int .u32 a1, .int .u32 a2, .int .u32 a3, .int .u32 a4, .int .u32 a5, .int .u32 a6, .int .u32 a7, .int .i64 sl, .int .i64 nx, .int .i64 ot, .int .i64 dd, .int .i64 lv]) hR (by rw [HT.out]; exact Hb.out) ag hch0 hown1 hgrow hat hlt r4 r3
    generalize w1.setCell ⟨R, 0, none⟩ (.slice (some ⟨g, 0, none⟩) (n + 1) cap) = W at hM ⊢
    clear hown1 hgrow hat hlt r4 r3 rf4 gB gR
    have HM := hd hM
    clear hM
    go_wp2
    go_ret
    refine ⟨rfl, ?_⟩
    have := HM.out
    rw [← Int.add_assoc] at this
    exact this
end Go.Proofs.YtldiemjlpnachaaDoor
namespace Go.Proofs.YtldiemjlpnachaaDoor
open Go.RowKit

/-- how many levels some steps have -/
def levs (ds : List Nat) : Nat := (ds.map (· + 1)).sum
theorem levs_snoc (ds : List Nat) (d : Nat) : levs (ds ++ [d]) = levs ds + d + 1 := by simp [levs]; omega
theorem levs_le : ∀ (ds : List Nat) (m : Nat), (∀ d ∈ ds, d ≤ m) → levs ds ≤ ds.length * (m + 1)
  | [], m, _ => by simp [levs]
  | d :: r, m, h => by
    have h1 := levs_le r m (fun x hx => h x (by simp [hx]))
    have h2 := h d (by simp)
    have e : levs (d :: r) = (d + 1) + levs r := by simp [levs]
    rw [e, List.length_cons, Nat.add_mul, Nat.one_mul]
    omega
/-- a step's cells: kind, set, slot, next, other, depth, first -/
def stepCells (k : Int) (a : Nat → Int) (s n o : Int) (d fi : Nat) : List Value :=
  [.int .i64 k, .int .u32 (a 0), .int .u32 (a 1), .int .u32 (a 2), .int .u32 (a 3), .int .u32 (a 4), .int .u32 (a 5), .int .u32 (a 6), .int .u32 (a 7), .int .i64 s, .int .i64 n, .int .i64 o, .int .i64 d, .int .i64 fi]
def SdOk (c : List Value) (fi : Nat) : Sd → Prop
  | (.done, d) => c = stepCells 0 (fun _ => 0) 0 0 0 d fi
  | (.one f n, d) => ∃ a, c = stepCells 1 a 0 n 0 d fi ∧ ∀ i, i < 8 → Word (a i) f i
  | (.beg n, d) => c = stepCells 2 (fun _ => 0) 0 n 0 d fi
  | (.fin n, d) => c = stepCells 3 (fun _ => 0) 0 n 0 d fi
  | (.fork n o, d) => c = stepCells 4 (fun _ => 0) 0 n o d fi
  | (.opn s n, d) => c = stepCells 5 (fun _ => 0) s n 0 d fi
  | (.shut s n, d) => c = stepCells 6 (fun _ => 0) s n 0 d fi
  | (.bck s n, d) => c = stepCells 7 (fun _ => 0) s n 0 d fi
  | (.gain n, d) => c = stepCells 8 (fun _ => 0) 0 n 0 d fi
theorem SdOk.len {c : List Value} {fi : Nat} {st : Sd} (h : SdOk c fi st) : c.length = 14 := by
  obtain ⟨k, d⟩ := st
  cases k with
  | one f n => obtain ⟨a, h, _⟩ := h; rw [h]; rfl
  | _ => rw [show c = _ from h]; rfl
def SdsOk (css : List (List Value)) (cs : List Sd) : Prop := css.length = cs.length ∧ ∀ (i : Nat) c st, css[i]? = some c → cs[i]? = some st → SdOk c (levs ((cs.map Prod.snd).take i)) st
theorem SdsOk.nil : SdsOk [] [] := ⟨rfl, fun i c st h => by simp at h⟩
theorem SdsOk.snoc {css : List (List Value)} {cs : List Sd} {c : List Value} {st : Sd} (h : SdsOk css cs) (hc : SdOk c (levs (cs.map Prod.snd)) st) : SdsOk (css ++ [c]) (cs ++ [st]) := by
  refine ⟨by simp [h.1], fun i c' st' h1 h2 => ?_⟩
  rcases Nat.lt_or_ge i css.length with hi | hi
  · rw [List.getElem?_append_left hi] at h1
    rw [List.getElem?_append_left (by rw [← h.1]; exact hi)] at h2
    rw [List.map_append, List.take_append_of_le_length (by rw [List.length_map, ← h.1]; omega)]
    exact h.2 i c' st' h1 h2
  · rw [List.getElem?_append_right hi] at h1
    rw [List.getElem?_append_right (by rw [← h.1]; exact hi), ← h.1] at h2
    rcases Nat.eq_zero_or_pos (i - css.length) with h0 | h0
    · rw [h0] at h1 h2
      simp at h1 h2
      rw [← h1, ← h2]
      have e : i = (cs.map Prod.snd).length := by rw [List.length_map, ← h.1]; omega
      rw [List.map_append, List.take_append_of_le_length (by omega), e, List.take_length]
      exact hc
    · rw [List.getElem?_eq_none (by simp; omega)] at h1
      cases h1
theorem SdsOk.lens {css : List (List Value)} {cs : List Sd} (h : SdsOk css cs) : ∀ c ∈ css, c.length = 14 := by
  intro c hc
  obtain ⟨i, hi, rfl⟩ := List.getElem_of_mem hc
  exact (h.2 i css[i] (cs[i]'(by rw [← h.1]; exact hi)) (List.getElem?_eq_getElem hi) (List.getElem?_eq_getElem _)).len
theorem map_set_same {cs : List Sd} {i d : Nat} {k : Sk} (hd : ∀ x, cs[i]? = some x → x.2 = d) : (cs.set i (k, d)).map Prod.snd = cs.map Prod.snd := by
  apply List.ext_getElem?
  intro j
  rw [List.getElem?_map, List.getElem?_map]
  by_cases e : i = j
  · subst e
    rcases Nat.lt_or_ge i cs.length with hi | hi
    · rw [List.getElem?_set_self hi, List.getElem?_eq_getElem hi]
      simp [hd cs[i] (List.getElem?_eq_getElem hi)]
    · rw [List.getElem?_eq_none (by simpa using hi), List.getElem?_eq_none hi]
  · rw [List.getElem?_set_ne e]
theorem SdsOk.set {css : List (List Value)} {cs : List Sd} {i d : Nat} {c : List Value} {k : Sk} (h : SdsOk css cs) (hd : ∀ x, cs[i]? = some x → x.2 = d) (hc : SdOk c (levs ((cs.map Prod.snd).take i)) (k, d)) : SdsOk (css.set i c) (cs.set i (k, d)) := by
  refine ⟨by simp [h.1], fun j c' st' h1 h2 => ?_⟩
  rw [map_set_same hd]
  by_cases e : i = j
  · subst e
    have hi : i < css.length := by have := (List.getElem?_eq_some_iff.1 h1).1; simpa using this
    rw [List.getElem?_set_self hi] at h1
    rw [List.getElem?_set_self (by rw [← h.1]; exact hi)] at h2
    cases h1; cases h2
    exact hc
  · rw [List.getElem?_set_ne e] at h1 h2
    exact h.2 j c' st' h1 h2
theorem flat_len {α : Type} (m : Nat) : ∀ (css : List (List α)), (∀ c ∈ css, c.length = m) → css.flatten.length = css.length * m
  | [], _ => by simp
  | c :: r, h => by
    rw [List.flatten_cons, List.length_append, flat_len m r (fun x hx => h x (by simp [hx])), h c (by simp), List.length_cons, Nat.add_mul, Nat.one_mul, Nat.add_comm]
theorem flat_get {α : Type} (m : Nat) : ∀ (css : List (List α)) (i j : Nat) (c : List α), (∀ c ∈ css, c.length = m) → css[i]? = some c → j < m → css.flatten[i * m + j]? = c[j]?
  | [], i, j, c, _, h, _ => by simp at h
  | x :: r, 0, j, c, hl, h, hj => by
    simp at h
    subst h
    rw [Nat.zero_mul, Nat.zero_add, List.flatten_cons, List.getElem?_append_left (by rw [hl x (by simp)]; exact hj)]
  | x :: r, i + 1, j, c, hl, h, hj => by
    have hx := hl x (by simp)
    rw [List.flatten_cons, List.getElem?_append_right (by rw [hx, Nat.add_mul]; omega), hx, show (i + 1) * m + j - m = i * m + j by rw [Nat.add_mul]; omega]
    exact flat_get m r i j c (fun y hy => hl y (by simp [hy])) (by simpa using h) hj


/-- the list of references, as the builder has it: old memory -/
def RefsAt (w : World) (C : Nat) (vr : Value) (rf : List Nat) : Prop := ∃ ao cp, vr = .slice ao rf.length cp ∧ ∀ i (h : i < rf.length), ∃ g, ao = some ⟨g, 0, none⟩ ∧ g < C ∧ w.cell? ⟨g, i, none⟩ = some (.int .i64 rf[i])
theorem RefsAt.below {w w' : World} {C : Nat} {vr : Value} {rf : List Nat} (h : RefsAt w C vr rf) (hb : Below C w w') : RefsAt w' C vr rf := by
  obtain ⟨ao, cp, e, h⟩ := h
  exact ⟨ao, cp, e, fun i hi => by obtain ⟨g, h1, h2, h3⟩ := h i hi; exact ⟨g, h1, h2, (hb.cell (by exact h2)).trans h3⟩⟩
/-- the builder in memory -/
structure CodeAt (w : World) (base C : Nat) (rf : List Nat) (vr : Value) (d : Nat) (cs : List Sd) : Prop where
  hC : C < base
  hb : base ≤ w.heap.size
  fz : ∀ i, i < 6 → w.frozen? ⟨C, i, none⟩ = false
  c1 : ∃ u, w.cell? ⟨C, 1, none⟩ = some u
  c2 : w.cell? ⟨C, 2, none⟩ = some (.int .i64 rf.length)
  c3 : w.cell? ⟨C, 3, none⟩ = some (.int .i64 (levs (cs.map Prod.snd)))
  c4 : w.cell? ⟨C, 4, none⟩ = some vr
  c5 : w.cell? ⟨C, 5, none⟩ = some (.int .i64 d)
  rf : RefsAt w C vr rf
  dm : d ≤ 300
  dl : ∀ x ∈ cs, x.2 ≤ 300
  rows : ∃ v css, w.cell? ⟨C, 0, none⟩ = some v ∧ w.ownsRow base 119 14 v cs.length css.flatten ∧ SdsOk css cs
theorem CodeAt.lev {w : World} {base C d : Nat} {rf : List Nat} {vr : Value} {cs : List Sd} (h : CodeAt w base C rf vr d cs) (hn : cs.length ≤ 1000) : levs (cs.map Prod.snd) ≤ 301000 := by
  have := levs_le (cs.map Prod.snd) 300 (fun x hx => by obtain ⟨y, hy, rfl⟩ := List.mem_map.1 hx; exact h.dl y hy)
  rw [List.length_map] at this
  omega
/-- what put does, of the steps -/
theorem put_c {w : World} {base C d : Nat} {rf : List Nat} {vr : Value} {cs : List Sd} (h : CodeAt w base C rf vr d cs) (hn : cs.length ≤ 1000) (k a0 a1 a2 a3 a4 a5 a6 a7 sl nx ot : Int) (st : Sk)
    (hok : ∀ dd fi : Nat, SdOk [.int .i64 k, .int .u32 a0, .int .u32 a1, .int .u32 a2, .int .u32 a3, .int .u32 a4, .int .u32 a5, .int .u32 a6, .int .u32 a7, .int .i64 sl, .int .i64 nx, .int .i64 ot, .int .i64 dd, .int .i64 fi] fi (st, dd)) :
    Calls Tryd.prog 47 #[.pointer (some ⟨C, 0, none⟩), .agg #[.int .i64 k, .int .u32 a0, .int .u32 a1, .int .u32 a2, .int .u32 a3, .int .u32 a4, .int .u32 a5, .int .u32 a6, .int .u32 a7, .int .i64 sl, .int .i64 nx, .int .i64 ot, .int .i64 0, .int .i64 0]] w
      fun e w' => e = .returned (.int .i64 cs.length) ∧ CodeAt w' base C rf vr d (cs ++ [(st, d)]) ∧ Below C w w' := by
  obtain ⟨v, css, h4, hown, hcs⟩ := h.rows
  obtain ⟨ao, cp, rfl⟩ := owns_shape hown
  have hC := h.hC
  have hb := h.hb
  have hl := h.lev hn
  refine (cput_any C ao cs.length cp base d (levs (cs.map Prod.snd)) css.flatten w k a0 a1 a2 a3 a4 a5 a6 a7 sl nx ot h4 (h.fz 0 (by omega)) h.c3 (h.fz 3 (by omega)) h.c5 hown h.hb hn h.hC h.dm (by omega)).mono ?_
  rintro e w' ⟨rfl, g, cap, e4, e3, ho, hat, hlt, hch⟩
  have hbl : Below C w w' := hch.below (by omega) (fun k hk => by have := (hown.lt k hk).1; omega)
  refine ⟨rfl, ⟨hC, Nat.le_trans hb hch.size, fun i hi => (hch.frozen i).trans (h.fz i hi), ?_, (hch.cell 2 (by simp)).trans h.c2, ?_, (hch.cell 4 (by simp)).trans h.c4, (hch.cell 5 (by simp)).trans h.c5, h.rf.below hbl, h.dm, ?_, ?_⟩, hbl⟩
  · obtain ⟨u, hu⟩ := h.c1
    exact ⟨u, (hch.cell 1 (by simp)).trans hu⟩
  · rw [e3, List.map_append, List.map_singleton, levs_snoc]
    simp
  · intro x hx
    rcases List.mem_append.1 hx with hx | hx
    · exact h.dl x hx
    · simp at hx; subst hx; exact h.dm
  · refine ⟨_, css ++ [_], e4, ?_, hcs.snoc (hok d _)⟩
    simp only [List.length_append, List.length_singleton, List.flatten_append, List.flatten_cons, List.flatten_nil, List.append_nil]
    exact ho

/-- SLOT: where a group stands among those that are referred to -/
def slotV (rf : List Nat) (n : Nat) : Int := if n ∈ rf then (rf.idxOf n : Int) else -1
theorem idxOf_le : ∀ (rf : List Nat) (n k : Nat) (hk : k < rf.length), rf[k] = n → rf.idxOf n ≤ k
  | [], _, k, hk, _ => by simp at hk
  | x :: r, n, 0, _, h => by
    simp at h
    simp [h]
  | x :: r, n, k + 1, hk, h => by
    have := idxOf_le r n k (by simpa using hk) (by simpa using h)
    rw [List.idxOf_cons]
    cases x == n <;> simp
    omega
theorem slotV_at {rf : List Nat} {n k : Nat} (hk : k < rf.length) (he : rf[k] = n) (hno : ∀ j, j < k → rf[j]? ≠ some n) : slotV rf n = k := by
  have hm : n ∈ rf := by rw [← he]; exact List.getElem_mem hk
  unfold slotV
  rw [if_pos hm]
  congr 1
  have h1 : rf.idxOf n < rf.length := List.idxOf_lt_length_of_mem hm
  rcases Nat.lt_trichotomy (rf.idxOf n) k with h | h | h
  · exact absurd (by rw [List.getElem?_eq_getElem h1, List.getElem_idxOf h1]) (hno _ h)
  · exact h
  · have := idxOf_le rf n k hk he
    omega
theorem slotV_no {rf : List Nat} {n : Nat} (hno : ∀ j, j < rf.length → rf[j]? ≠ some n) : slotV rf n = -1 := by
  unfold slotV
  rw [if_neg (fun hm => ?_)]
  obtain ⟨j, hj, e⟩ := List.getElem_of_mem hm
  exact hno j hj (by rw [List.getElem?_eq_getElem hj, e])

set_option maxHeartbeats 800000 in
theorem slot_any {w : World} {C n : Nat} {rf : List Nat} {vr : Value} (h4 : w.cell? ⟨C, 4, none⟩ = some vr) (hr : RefsAt w C vr rf) (hl : rf.length ≤ 2) (sv : Int) (hsv : slotV rf n = sv) :
    Calls Tryd.prog 86 #[.pointer (some ⟨C, 0, none⟩), .int .i64 n] w fun e w' => e = .returned (.int .i64 sv) ∧ w' = w := by
  obtain ⟨ao, cp, rfl, hc⟩ := hr
  have Hc := hd hc
  have Hsv := hd hsv
  clear hc hsv
  go_enter Tryd.func86, Tryd.ntmps86
  go_wp2
  go_loop [5, 6, 12] (fun _ _ i => ∃ k : Nat, i = .int .i64 k ∧ k ≤ rf.length ∧ Hid (∀ j, j < k → rf[j]? ≠ some n)) (fun _ _ i => rf.length - (intOf i).toNat)
  case atStart => exact ⟨0, rfl, Nat.zero_le _, hd (fun j hj => by omega)⟩
  case round =>
    obtain ⟨k, rfl, hk, Hno⟩ := hrel
    by_cases hlt : k < rf.length
    · obtain ⟨g, rfl, hg, hc⟩ := Hc.out k hlt
      have hk1 : (k : Int) < (rf.length : Int) := by omega
      by_cases hn : rf[k] = n
      · have HB : Hid (sv = k) := hd (Hsv.out.symm.trans (slotV_at hlt hn Hno.out))
        rw [hn] at hc
        go_wp2
        go_ret
        rw [HB.out]
        exact ⟨rfl, rfl⟩
      · have hne : (((rf[k] : Nat) : Int) == (n : Int)) = false := by simp; omega
        have Hnn : Hid (rf[k]? ≠ some n) := hd (by rw [List.getElem?_eq_getElem hlt]; simpa using hn)
        clear hn
        generalize ((rf[k] : Nat) : Int) = y at *
        go_wp2
        go_round
        case rel => exact ⟨k + 1, by go_num, by omega, hd (fun j hj => by
          rcases Nat.lt_or_ge j k with h | h
          · exact Hno.out j h
          · obtain rfl : j = k := by omega
            exact Hnn.out)⟩
        case measure => simp [intOf]; omega
    · obtain rfl : k = rf.length := by omega
      have HB : Hid (sv = -1) := hd (Hsv.out.symm.trans (slotV_no Hno.out))
      go_wp2
      go_ret
      rw [HB.out]
      exact ⟨rfl, rfl⟩

/-- ISSTAR, of an item -/
theorem ItemOk.star {H : Fins} : ∀ {dp : Nat} {cs : List Value} {it : It}, ItemOk H dp cs it → ∃ a num least most ra rn rc, cs = cellsOf it.1 a num least most ra rn rc ∧ 0 ≤ it.1 ∧ it.1 ≤ 5 ∧ starT it.3 = decide (it.1 = 5 ∧ least = 0 ∧ most = -1)
  | 0, _, _, h => h.elim
  | d + 1, _, ⟨kd, sz, tr⟩, ⟨a, num, least, most, ra, rn, rc, e, k0, k1, _, _, hc⟩ => by
    refine ⟨a, num, least, most, ra, rn, rc, e, k0, k1, ?_⟩
    simp only at *
    rcases hc with ⟨rfl, its, _, _, n, _, rfl⟩ | ⟨rfl, _, _, _, _, x, _, _, rfl, _⟩ | ⟨h4, h5, _, hp⟩
    · simp [starT]
    · simp [starT]
    · rcases hp with ⟨rfl, f, rfl, _⟩ | ⟨rfl, rfl⟩ | ⟨rfl, rfl⟩ | ⟨rfl, n, _, rfl⟩ <;> simp [starT]
set_option maxHeartbeats 800000 in
theorem isStar_any (w : World) (g o : Nat) (k least most : Int) (h0 : w.cell? ⟨g, o, none⟩ = some (.int .i64 k)) (h10 : w.cell? ⟨g, o + 10, none⟩ = some (.int .i64 least)) (h11 : w.cell? ⟨g, o + 11, none⟩ = some (.int .i64 most)) (b : Bool) (hb : decide (k = 5 ∧ least = 0 ∧ most = -1) = b) :
    Calls Tryd.prog 98 #[.pointer (some ⟨g, o, none⟩)] w fun e w' => e = .returned (.bool b) ∧ w' = w := by
  by_cases hk : k = 5
  · subst hk
    by_cases hl : least = 0
    · subst hl
      by_cases hm : most = -1
      · subst hm
        have HB : Hid (b = true) := hd (by rw [← hb]; simp)
        clear hb
        go_enter Tryd.func98, Tryd.ntmps98
        go_wp2
        go_ret
        rw [HB.out]
        exact ⟨rfl, rfl⟩
      · have hmb : (most == -1) = false := by simpa using hm
        have HB : Hid (b = false) := hd (by rw [← hb]; simpa using hm)
        clear hm hb
        go_enter Tryd.func98, Tryd.ntmps98
        go_wp2
        go_ret
        rw [HB.out]
        exact ⟨rfl, rfl⟩
    · have hlb : (least == 0) = false := by simpa using hl
      have HB : Hid (b = false) := hd (by rw [← hb]; simp [hl])
      clear hl hb
      go_enter Tryd.func98, Tryd.ntmps98
      go_wp2
      go_ret
      rw [HB.out]
      exact ⟨rfl, rfl⟩
  · have hkb : (k == 5) = false := by simpa using hk
    have HB : Hid (b = false) := hd (by rw [← hb]; simp [hk])
    clear hk hb
    go_enter Tryd.func98, Tryd.ntmps98
    go_wp2
    go_ret
    rw [HB.out]
    exact ⟨rfl, rfl⟩

/-- HASBYTE, of a row -/
def HasSaid (H : Fins) (dp : Nat) : Prop := ∀ (w : World) (ra : Option Addr) (rn rc : Nat) (its : List It), Fin w H → RowFin (ItemOk H dp) H ra rn its →
    Calls Tryd.prog 110 #[.slice ra rn rc] w fun e w' => e = .returned (.bool (hasBs (its.map (·.3)))) ∧ w' = w
theorem hasBs_no : ∀ {its : List It}, (∀ j (h : j < its.length), hasB its[j].3 = false) → hasBs (its.map (·.3)) = false
  | [], _ => rfl
  | x :: r, h => by
    simp only [List.map_cons, hasBs]
    rw [show hasB x.3 = false from h 0 (by simp), hasBs_no (fun j hj => by have := h (j + 1) (by simp; omega); simpa using this)]
    rfl
theorem hasBs_yes {its : List It} {j : Nat} (hj : j < its.length) (h : hasB its[j].3 = true) : hasBs (its.map (·.3)) = true := by
  induction its generalizing j with
  | nil => simp at hj
  | cons x r ih =>
    simp only [List.map_cons, hasBs]
    cases j with
    | zero => rw [show hasB x.3 = true from h]; rfl
    | succ j => rw [ih (j := j) (by simpa using hj) (by simpa using h)]; simp
set_option maxHeartbeats 1600000 in
theorem hasByte_step (H : Fins) (dp : Nat) (hI : ∀ d, dp = d + 1 → HasSaid H d) : HasSaid H dp := by
  intro w ra rn rc its hF hR
  obtain ⟨hlen, hrn, hrow⟩ := hR
  have HI := hd hI
  have HF := hd hF
  have Hrow := hd hrow
  have Hlen := hd hlen
  clear hrow hlen hI hF
  go_enter Tryd.func110, Tryd.ntmps110
  go_wp2
  go_loop [3, 4, 7] (fun _ _ i => ∃ k : Nat, i = .int .i64 k ∧ k ≤ rn ∧ Hid (∀ j (h : j < its.length), j < k → hasB its[j].3 = false)) (fun _ _ i => rn - (intOf i).toNat)
  case atStart => exact ⟨0, rfl, Nat.zero_le _, hd (fun j _ hj => by omega)⟩
  case round =>
    obtain ⟨k, rfl, hk, Hno⟩ := hrel
    by_cases hlt : k < rn
    · obtain ⟨g, arr, hra, hg, hP⟩ : ∃ g arr, ra = some ⟨g, 0, none⟩ ∧ H g = some arr ∧ ∀ i (h : i < its.length), ItemOk H dp (itemAt arr i) its[i] := by
        rcases Hrow.out with h | h
        · omega
        · exact h
      subst hra
      have hkl : k < its.length := by rw [Hlen.out]; exact hlt
      have hok := hP k hkl
      have hcell : ∀ j v, (itemAt arr k)[j]? = some v → w.cell? ⟨g, k * 13 + j, none⟩ = some v := fun j v hv => itemAt_cell (HF.out g arr hg) k j v hv
      have HY : Hid (hasB its[k].3 = true → hasBs (its.map (·.3)) = true) := hd (fun h => hasBs_yes hkl h)
      have HN : Hid (hasB its[k].3 = false → ∀ j (h : j < its.length), j < k + 1 → hasB its[j].3 = false) := hd (fun h j hj hj1 => by
        rcases Nat.lt_or_ge j k with h2 | h2
        · exact Hno.out j hj h2
        · obtain rfl : j = k := by omega
          exact h)
      obtain ⟨d, rfl⟩ : ∃ d, dp = d + 1 := by
        cases dp with
        | zero => exact hok.elim
        | succ d => exact ⟨d, rfl⟩
      obtain ⟨a, num, least, most, ra', rn', rc', e, hk0, hk1, _, _, hcase⟩ := hok
      rw [e] at hcell
      have h0 : w.cell? ⟨g, k * 13, none⟩ = some (.int .i64 its[k].1) := hcell 0 _ rfl
      have h10 : w.cell? ⟨g, k * 13 + 10, none⟩ = some (.int .i64 least) := hcell 10 _ rfl
      have h12 : w.cell? ⟨g, k * 13 + 12, none⟩ = some (.slice ra' rn' rc') := hcell 12 _ rfl
      have hkn : (k : Int) < (rn : Int) := by omega
      obtain ⟨it, hit⟩ : ∃ it, its[k] = it := ⟨_, rfl⟩
      rw [hit] at HY HN h0 hcase hk0 hk1
      obtain ⟨kd, sz, tr⟩ := it
      clear hcell e hP hg hit
      simp only at *
      rcases hcase with ⟨rfl, its', hR', _, n, _, rfl⟩ | ⟨rfl, hl0, hl1, _, _, x, hR', _, rfl, _⟩ | ⟨hn4, hn5, _, hp⟩
      · have Hc := hd (HI.out d rfl w ra' rn' rc' its' HF.out hR')
        clear hR'
        cases hb : hasBs (its'.map (·.3))
        · rw [hb] at Hc
          have HN' := hd (HN.out (by simp only [hasB]; exact hb))
          clear hb
          go_wp2_with (go_at_call 110; refine Hc.out.mono ?_; rintro e w' ⟨rfl, rfl⟩)
          go_round
          case rel => exact ⟨k + 1, by go_num, by omega, HN'⟩
          case measure => simp [intOf]; omega
        · rw [hb] at Hc
          have HY' := hd (HY.out (by simp only [hasB]; exact hb))
          clear hb
          go_wp2_with (go_at_call 110; refine Hc.out.mono ?_; rintro e w' ⟨rfl, rfl⟩)
          go_ret
          rw [HY'.out]
          exact ⟨rfl, rfl⟩
      · have Hc := hd (HI.out d rfl w ra' rn' rc' [x] HF.out hR')
        have e0 : hasBs ([x].map (·.3)) = hasB x.3 := by simp [hasBs]
        rw [e0] at Hc
        clear hR' e0
        by_cases hlp : 0 < least
        · cases hb : hasB x.3
          · rw [hb] at Hc
            have HN' := hd (HN.out (by simp only [hasB, hb, Bool.and_false]))
            clear hb
            go_wp2_with (go_at_call 110; refine Hc.out.mono ?_; rintro e w' ⟨rfl, rfl⟩)
            go_round
            case rel => exact ⟨k + 1, by go_num, by omega, HN'⟩
            case measure => simp [intOf]; omega
          · rw [hb] at Hc
            have HY' := hd (HY.out (by simp [hasB, hb, hlp]))
            clear hb
            go_wp2_with (go_at_call 110; refine Hc.out.mono ?_; rintro e w' ⟨rfl, rfl⟩)
            go_ret
            rw [HY'.out]
            exact ⟨rfl, rfl⟩
        · have HN' := hd (HN.out (by simp [hasB, hlp]))
          go_wp2
          go_round
          case rel => exact ⟨k + 1, by go_num, by omega, HN'⟩
          case measure => simp [intOf]; omega
      · rcases hp with ⟨rfl, f, rfl, _⟩ | ⟨rfl, rfl⟩ | ⟨rfl, rfl⟩ | ⟨rfl, n, _, rfl⟩
        · have HY' := hd (HY.out (by simp [hasB]))
          go_wp2
          go_ret
          rw [HY'.out]
          exact ⟨rfl, rfl⟩
        all_goals
          have HN' := hd (HN.out (by simp [hasB]))
          go_wp2
          go_round
          case rel => exact ⟨k + 1, by go_num, by omega, HN'⟩
          case measure => simp [intOf]; omega
    · have HZ : Hid (hasBs (its.map (·.3)) = false) := hd (hasBs_no (fun j hj => Hno.out j hj (by rw [Hlen.out] at hj; omega)))
      go_wp2
      go_ret
      rw [HZ.out]
      exact ⟨rfl, rfl⟩
theorem hasByte_any (H : Fins) : ∀ dp, HasSaid H dp
  | 0 => hasByte_step H 0 (fun d h => by omega)
  | d + 1 => hasByte_step H (d + 1) (fun d' h => by obtain rfl : d' = d := by omega
                                                    exact hasByte_any H d')
end Go.Proofs.YtldiemjlpnachaaDoor
