import Derived.Test.YtknckgibfbboaaaDoorRd3
namespace Go.Proofs.YtknckgibfbboaaaDoor
open Go.RowKit

set_option maxRecDepth 100000 in
set_option maxHeartbeats 1600000 in
theorem repeat_walk (R g m cap : Nat) (least most : Int) (w : World) (k a0 a1 a2 a3 a4 a5 a6 a7 num ls ms : Int) (ra : Option Addr) (rn rc : Nat)
    (r4 : w.cell? ⟨R, 4, none⟩ = some (.slice (some ⟨g, 0, none⟩) (m + 1) cap)) (hm : m ≤ 1000) (hg : g < w.heap.size)
    (h0 : w.cell? ⟨g, m * 13, none⟩ = some (.int .i64 k)) (h1 : w.cell? ⟨g, m * 13 + 1, none⟩ = some (.int .u32 a0)) (h2 : w.cell? ⟨g, m * 13 + 2, none⟩ = some (.int .u32 a1)) (h3 : w.cell? ⟨g, m * 13 + 3, none⟩ = some (.int .u32 a2)) (h4 : w.cell? ⟨g, m * 13 + 4, none⟩ = some (.int .u32 a3)) (h5 : w.cell? ⟨g, m * 13 + 5, none⟩ = some (.int .u32 a4)) (h6 : w.cell? ⟨g, m * 13 + 6, none⟩ = some (.int .u32 a5)) (h7 : w.cell? ⟨g, m * 13 + 7, none⟩ = some (.int .u32 a6)) (h8 : w.cell? ⟨g, m * 13 + 8, none⟩ = some (.int .u32 a7)) (h9 : w.cell? ⟨g, m * 13 + 9, none⟩ = some (.int .i64 num)) (h10 : w.cell? ⟨g, m * 13 + 10, none⟩ = some (.int .i64 ls)) (h11 : w.cell? ⟨g, m * 13 + 11, none⟩ = some (.int .i64 ms)) (h12 : w.cell? ⟨g, m * 13 + 12, none⟩ = some (.slice ra rn rc))
    (q0 : w.frozen? ⟨g, m * 13, none⟩ = false) (q1 : w.frozen? ⟨g, m * 13 + 1, none⟩ = false) (q2 : w.frozen? ⟨g, m * 13 + 2, none⟩ = false) (q3 : w.frozen? ⟨g, m * 13 + 3, none⟩ = false) (q4 : w.frozen? ⟨g, m * 13 + 4, none⟩ = false) (q5 : w.frozen? ⟨g, m * 13 + 5, none⟩ = false) (q6 : w.frozen? ⟨g, m * 13 + 6, none⟩ = false) (q7 : w.frozen? ⟨g, m * 13 + 7, none⟩ = false) (q8 : w.frozen? ⟨g, m * 13 + 8, none⟩ = false) (q9 : w.frozen? ⟨g, m * 13 + 9, none⟩ = false) (q10 : w.frozen? ⟨g, m * 13 + 10, none⟩ = false) (q11 : w.frozen? ⟨g, m * 13 + 11, none⟩ = false) (q12 : w.frozen? ⟨g, m * 13 + 12, none⟩ = false) :
    Calls Tryd.prog 54 #[.pointer (some ⟨R, 0, none⟩), .int .i64 least, .int .i64 most] w fun e w' => e = .returned (.tuple #[]) ∧
      w' = (w.setCells g (m * 13) [Value.int .i64 5, .int .u32 0, .int .u32 0, .int .u32 0, .int .u32 0, .int .u32 0, .int .u32 0, .int .u32 0, .int .u32 0, .int .i64 0, .int .i64 least, .int .i64 most, .slice (some ⟨w.heap.size, 0, none⟩) 1 1]).alloc (.cells #[Value.int .i64 k, .int .u32 a0, .int .u32 a1, .int .u32 a2, .int .u32 a3, .int .u32 a4, .int .u32 a5, .int .u32 a6, .int .u32 a7, .int .i64 num, .int .i64 ls, .int .i64 ms, .slice ra rn rc] 127) := by
  have hm0 : (0 : Int) ≤ (m : Int) := by omega
  have hne : ((m : Int) + 1 == 0) = false := by simp; omega
  have hRl := World.block_lt_of_cell? w _ r4
  go_enter Tryd.func54, Tryd.ntmps54
  go_wp2
  go_end0
  rw [chain13]
  exact ⟨rfl, rfl⟩

theorem repSz_bd (least most x : Int) (hl : 0 ≤ least ∧ least ≤ 20) (hm : -1 ≤ most ∧ most ≤ 20) (hx : 0 ≤ x) : 0 ≤ repSz least most x ∧ repSz least most x ≤ 202 := by
  have hc := cop_bd least most hl hm
  have hp : 0 ≤ cop least most * x := Int.mul_nonneg (by omega) hx
  unfold repSz
  split <;> omega
/-- one more finished array -/
def finAdd (H : Fins) (b : Nat) (arr : Array Value) : Fins := fun k => if k = b then some arr else H k
theorem finAdd_le {H : Fins} {b : Nat} {arr : Array Value} (hb : H b = none) : ∀ g a, H g = some a → finAdd H b arr g = some a := by
  intro g a hg
  unfold finAdd
  rw [if_neg (by rintro rfl; rw [hb] at hg; cases hg)]
  exact hg
theorem Fin.none {w : World} {H : Fins} (h : Fin w H) {b : Nat} (hb : w.heap.size ≤ b) : H b = none := by
  cases hg : H b with
  | none => rfl
  | some arr => have := h.lt hg; omega

theorem Rd.rep {w : World} {base R g cap : Nat} {s : ByteArray} {H : Fins} {σ : St} {is : List It} {it : It} {vo : Value} {rs : List Value} {css : List (List Value)} {c : List Value} {d : Nat} (least most : Int)
    (h : Rd w base R s H σ) (h4 : w.cell? ⟨R, 4, none⟩ = some (.slice (some ⟨g, 0, none⟩) (is.length + 1) cap)) (h5 : w.cell? ⟨R, 5, none⟩ = some vo) (hcs : AllOk H css is) (hok : ItemOk H d c it) (hown : w.ownsRow base 127 13 (.slice (some ⟨g, 0, none⟩) (is.length + 1) cap) (is.length + 1) (css.flatten ++ c))
    (ho : w.ownsRow base 94 3 vo σ.outer.length (outCells σ.outer rs)) (hout : OutOk w base H rs σ.outer) (hap : Apart H (.slice (some ⟨g, 0, none⟩) (is.length + 1) cap :: vo :: rs))
    (hl : 0 ≤ least ∧ least ≤ 20) (hm : -1 ≤ most ∧ most ≤ 20) (hlm : most = -1 ∨ least ≤ most) :
    Rd ((w.setCells g (is.length * 13) [Value.int .i64 5, .int .u32 0, .int .u32 0, .int .u32 0, .int .u32 0, .int .u32 0, .int .u32 0, .int .u32 0, .int .u32 0, .int .i64 0, .int .i64 least, .int .i64 most, .slice (some ⟨w.heap.size, 0, none⟩) 1 1]).alloc (.cells c.toArray 127)) base R s (finAdd H w.heap.size c.toArray) { σ with inner := { σ.inner with items := is ++ [itRep least most it] } } ∧
      Below R w ((w.setCells g (is.length * 13) [Value.int .i64 5, .int .u32 0, .int .u32 0, .int .u32 0, .int .u32 0, .int .u32 0, .int .u32 0, .int .u32 0, .int .u32 0, .int .i64 0, .int .i64 least, .int .i64 most, .slice (some ⟨w.heap.size, 0, none⟩) 1 1]).alloc (.cells c.toArray 127)) := by
  have hR := h.hR
  have hb := h.hb
  obtain ⟨hgb, hgl⟩ := hown.lt g rfl
  have hgR : g ≠ R := by omega
  generalize hnew : [Value.int .i64 5, .int .u32 0, .int .u32 0, .int .u32 0, .int .u32 0, .int .u32 0, .int .u32 0, .int .u32 0, .int .u32 0, .int .i64 0, .int .i64 least, .int .i64 most, .slice (some ⟨w.heap.size, 0, none⟩) 1 1] = new
  have hnl : new.length = 13 := by rw [← hnew]; rfl
  have hch : Ch w (w.setCells g (is.length * 13) new) R (some g) [] := Ch.sets g hgR (.inl rfl) new _ _ (Ch.refl _ _ _ _)
  have hsz : (w.setCells g (is.length * 13) new).heap.size = w.heap.size := setCells_size _ _ _ _
  have hch2 : Ch w ((w.setCells g (is.length * 13) new).alloc (.cells c.toArray 127)) R (some g) [] := hch.alloc (by omega) _
  have hfn := h.fin.none (Nat.le_refl _)
  have hle := finAdd_le (arr := c.toArray) hfn
  have others : ∀ v ∈ vo :: rs, ∀ k, v.ownBlock = some k → base ≤ k ∧ k < w.heap.size := by
    intro v hv k hk
    rcases List.mem_cons.1 hv with rfl | hv
    · exact ho.lt k hk
    · exact hout.lt v hv k hk
  have apart : ∀ v ∈ vo :: rs, ∀ k, v.ownBlock = some k → k ≠ g := by
    intro v hv k hk e
    have hn := hap.1
    rw [List.filterMap_cons] at hn
    exact (List.nodup_cons.1 hn).1 (by rw [← e]; exact mem_blocks hv hk)
  have blk : ∀ v ∈ vo :: rs, ∀ k, v.ownBlock = some k → ((w.setCells g (is.length * 13) new).alloc (.cells c.toArray 127)).heap[k]? = w.heap[k]? := by
    intro v hv k hk
    have := others v hv k hk
    exact hch2.block k this.2 (by omega) (by simpa using apart v hv k hk)
  have cl : ∀ i, ((w.setCells g (is.length * 13) new).alloc (.cells c.toArray 127)).cell? ⟨R, i, none⟩ = w.cell? ⟨R, i, none⟩ := fun i => hch2.cell i (by simp)
  refine ⟨⟨hR, Nat.le_trans hb hch2.size, (cl 0).trans h.c0, (cl 1).trans h.c1, (cl 2).trans h.c2, (cl 3).trans h.c3, (cl 6).trans h.c6, fun i hi => (cl _).trans (h.c7 i hi), fun i hi => (cl _).trans (h.c17 i hi), (cl 27).trans h.c27, fun i hi => (hch2.frozen i).trans (h.fz i hi), ?_, ?_, ?_⟩, hch2.below (by omega) (fun k hk => by cases hk; omega)⟩
  · intro b arr hb'
    unfold finAdd at hb'
    split at hb'
    · rename_i e
      cases hb'
      rw [e, ← hsz]
      exact heap_alloc_new _ _
    · rw [hch2.block b (h.fin.lt hb') (by have := h.finb b arr hb'; omega) (by
        intro e
        have := hap.2 b (mem_blocks (v := .slice (some ⟨g, 0, none⟩) (is.length + 1) cap) (by simp) (by simp [Value.ownBlock]; cases e; rfl))
        rw [this] at hb'; cases hb')]
      exact h.fin b arr hb'
  · intro b arr hb'
    unfold finAdd at hb'
    split at hb'
    · rename_i e; omega
    · exact h.finb b arr hb'
  · refine ⟨_, vo, rs, (cl 4).trans h4, (cl 5).trans h5, ⟨css ++ [new], ?_, ?_⟩, owns_same ho (blk vo (by simp)), (hout.mono hle).same (fun v hv => blk v (by simp [hv])), hap.1, ?_⟩
    · refine (hcs.mono hle).snoc ⟨d + 1, ?_⟩
      have hbd := hok.bd
      have hr := repSz_bd least most it.2 hl hm hbd.1
      refine ⟨fun _ => 0, 0, least, most, some ⟨w.heap.size, 0, none⟩, 1, 1, hnew.symm, by show (0 : Int) ≤ 5; omega, by show (5 : Int) ≤ 5; omega, hr.1, hr.2, .inr (.inl ⟨rfl, hl.1, hl.2, hm.1, hm.2, it, ?_, rfl, rfl, hlm⟩)⟩
      refine ⟨rfl, by omega, .inr ⟨w.heap.size, c.toArray, rfl, by simp [finAdd], fun i hi => ?_⟩⟩
      have hi0 : i = 0 := by simpa using hi
      subst hi0
      have : itemAt c.toArray 0 = c := by unfold itemAt; simp [List.take_of_length_le (Nat.le_of_eq hok.len)]
      rw [this]
      exact hok.mono hle
    · simp only [List.length_append, List.length_singleton, List.flatten_append, List.flatten_cons, List.flatten_nil, List.append_nil]
      have := owns_store (ps := css.flatten) (zs := c) (bs := []) (cs := new) (k := is.length * 13) (by simpa using hown) hcs.flat (by rw [hok.len, hnl])
      simp only [List.append_nil] at this
      exact this.alloc _
    · intro b hb'
      unfold finAdd
      obtain ⟨v, hv, hk⟩ := List.mem_filterMap.1 hb'
      have hlt : b < w.heap.size := by
        rcases List.mem_cons.1 hv with rfl | hv
        · simp [Value.ownBlock] at hk; omega
        · exact (others v hv b hk).2
      rw [if_neg (by omega)]
      exact hap.2 b hb'

/-- REPEAT, of a reader. -/
theorem repeat_rd {w : World} {base R : Nat} {s : ByteArray} {H : Fins} {σ : St} (h : Rd w base R s H σ) (is : List It) (it : It) (hi : σ.inner.items = is ++ [it]) (least most : Int) (hl : 0 ≤ least ∧ least ≤ 20) (hm : -1 ≤ most ∧ most ≤ 20) (hlm : most = -1 ∨ least ≤ most) (hn : is.length ≤ 1000) :
    Calls Tryd.prog 54 #[.pointer (some ⟨R, 0, none⟩), .int .i64 least, .int .i64 most] w fun e w' => e = .returned (.tuple #[]) ∧
      ∃ H', Rd w' base R s H' { σ with inner := { σ.inner with items := is ++ [itRep least most it] } } ∧ Below R w w' := by
  obtain ⟨vi, vo, rs, h4, h5, hlive, ho, hout, hap⟩ := h.rows
  rw [hi] at hlive
  obtain ⟨g, cap, css, c, rfl, hcs, ⟨d, hok⟩, hown, hcell⟩ := hlive.last
  obtain ⟨a, num, ls, ms, ra, rn, rc, hc⟩ := hok.oneCell
  have hfr : ∀ j, w.frozen? ⟨g, j, none⟩ = false := by
    obtain ⟨cur, _, hg, _⟩ := owns_cells hown
    intro j
    simp [World.frozen?, hg]
  have hc' := hc
  rw [hc] at hcell
  refine (repeat_walk R g is.length cap least most w it.1 (a 0) (a 1) (a 2) (a 3) (a 4) (a 5) (a 6) (a 7) num ls ms ra rn rc h4 hn (hown.lt g rfl).2
    (hcell 0 _ rfl) (hcell 1 _ rfl) (hcell 2 _ rfl) (hcell 3 _ rfl) (hcell 4 _ rfl) (hcell 5 _ rfl) (hcell 6 _ rfl) (hcell 7 _ rfl) (hcell 8 _ rfl) (hcell 9 _ rfl) (hcell 10 _ rfl) (hcell 11 _ rfl) (hcell 12 _ rfl)
    (hfr _) (hfr _) (hfr _) (hfr _) (hfr _) (hfr _) (hfr _) (hfr _) (hfr _) (hfr _) (hfr _) (hfr _) (hfr _)).mono ?_
  rintro e w' ⟨rfl, rfl⟩
  have hrep := h.rep (is := is) (it := it) least most h4 h5 hcs hok hown ho hout hap hl hm hlm
  rw [hc'] at hrep
  exact ⟨rfl, _, hrep.1, hrep.2⟩
end Go.Proofs.YtknckgibfbboaaaDoor
