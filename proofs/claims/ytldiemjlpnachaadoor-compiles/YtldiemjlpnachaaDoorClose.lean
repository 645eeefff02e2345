import Derived.Test.YtldiemjlpnachaaDoorOpen
namespace Go.Proofs.YtldiemjlpnachaaDoor
open Go.RowKit

theorem owns_pop {w : World} {base e size g n cap : Nat} {xs ys : List Value} (h : w.ownsRow base e size (.slice (some ⟨g, 0, none⟩) (n + 1) cap) (n + 1) (xs ++ ys)) (hx : xs.length = n * size) : w.ownsRow base e size (.slice (some ⟨g, 0, none⟩) n cap) n xs := by
  obtain ⟨cur, hb, hg, h1, h2, h3, _, _⟩ := owns_cells h
  refine owns_of_cells hb hg (by omega) h2 h3 hx ?_
  intro j v hv
  refine owns_cell h j v ?_
  rw [List.getElem?_append_left (by have := (List.getElem?_eq_some_iff.1 hv).1; omega)]
  exact hv

set_option maxHeartbeats 800000 in
theorem closeGroup_no {w : World} {R cp : Nat} {ao : Option Addr} (h5 : w.cell? ⟨R, 5, none⟩ = some (.slice ao 0 cp)) :
    Calls Tryd.prog 78 #[.pointer (some ⟨R, 0, none⟩)] w fun e w' => e = .returned (.int .i64 8) ∧ w' = w := by
  go_enter Tryd.func78, Tryd.ntmps78
  go_wp2
  go_ret
  exact ⟨rfl, rfl⟩

set_option maxRecDepth 100000 in
set_option maxHeartbeats 1600000 in
theorem closeGroup_walk (R g n cap num st on os_ : Nat) (ia : Option Addr) (il ic : Nat) (oa : Option Addr) (ol oc : Nat) (w : World) (cb : Bool)
    (h2 : w.cell? ⟨R, 2, none⟩ = some (.int .i64 num)) (h3 : w.cell? ⟨R, 3, none⟩ = some (.int .i64 st)) (h4 : w.cell? ⟨R, 4, none⟩ = some (.slice ia il ic)) (h5 : w.cell? ⟨R, 5, none⟩ = some (.slice (some ⟨g, 0, none⟩) (n + 1) cap)) (h7 : w.cell? ⟨R, 7 + num, none⟩ = some (.bool cb))
    (fz : ∀ i, i < 18 → w.frozen? ⟨R, i, none⟩ = false) (g0 : w.cell? ⟨g, n * 3, none⟩ = some (.int .i64 on)) (g1 : w.cell? ⟨g, n * 3 + 1, none⟩ = some (.int .i64 os_)) (g2 : w.cell? ⟨g, n * 3 + 2, none⟩ = some (.slice oa ol oc))
    (hn : n ≤ 1000) (hcap : n + 1 ≤ cap) (_hcap2 : cap ≤ 9223372036854775807) (hnum : num ≤ 9) (_hgR : g ≠ R) (Q : World → Prop)
    (hput : ∀ V o1, V = ((((w.setCell ⟨R, 2, none⟩ (.int .i64 on)).setCell ⟨R, 3, none⟩ (.int .i64 os_)).setCell ⟨R, 4, none⟩ (.slice oa ol oc)).setCell ⟨R, 5, none⟩ (.slice (some ⟨g, 0, none⟩) n cap)).alloc o1 →
      Calls Tryd.prog 63 #[.pointer (some ⟨R, 0, none⟩), .agg #[.int .i64 4, .int .u32 0, .int .u32 0, .int .u32 0, .int .u32 0, .int .u32 0, .int .u32 0, .int .u32 0, .int .u32 0, .int .i64 num, .int .i64 0, .int .i64 0, .slice ia il ic], .int .i64 2] (V.setCell ⟨R, 7 + num, none⟩ (.bool true)).drew fun e w' => e = .returned (.tuple #[]) ∧ Q w') :
    Calls Tryd.prog 78 #[.pointer (some ⟨R, 0, none⟩)] w fun e w' => e = .returned (.int .i64 0) ∧ Q w' := by
  have Hput := hd hput
  clear hput
  have hn0 : (0 : Int) ≤ (n : Int) := by omega
  have hne : ((n : Int) + 1 == 0) = false := by simp; omega
  have hc1 : (n : Int) ≤ (cap : Int) := by omega
  have hnum0 : (0 : Int) ≤ (num : Int) := by omega
  have hnum1 : (num : Int) < 10 := by omega
  have f2 := fz 2 (by omega)
  have f3 := fz 3 (by omega)
  have f4 := fz 4 (by omega)
  have f5 := fz 5 (by omega)
  have f7 := fz (7 + num) (by omega)
  have lR := World.block_lt_of_cell? w _ h2
  have lg := World.block_lt_of_cell? w _ g0
  clear fz
  go_enter Tryd.func78, Tryd.ntmps78
  go_wp2
  have c7 : (((((w.setCell ⟨R, 2, none⟩ (.int .i64 on)).setCell ⟨R, 3, none⟩ (.int .i64 os_)).setCell ⟨R, 4, none⟩ (.slice oa ol oc)).setCell ⟨R, 5, none⟩ (.slice (some ⟨g, 0, none⟩) n cap)).alloc (.cells #[.int .i64 num, .int .i64 st, .slice ia il ic] 104)).cell? ⟨R, 7 + num, none⟩ = some (.bool cb) := by
    rw [World.cell?_alloc_lt _ _ _ (by simp [World.setCell]; exact lR), World.cell?_setCell_other _ _ _ _ (by rintro e; injection e; omega), World.cell?_setCell_other _ _ _ _ (by rintro e; injection e; omega), World.cell?_setCell_other _ _ _ _ (by rintro e; injection e; omega), World.cell?_setCell_other _ _ _ _ (by rintro e; injection e; omega)]
    exact h7
  have k7 : (((((w.setCell ⟨R, 2, none⟩ (.int .i64 on)).setCell ⟨R, 3, none⟩ (.int .i64 os_)).setCell ⟨R, 4, none⟩ (.slice oa ol oc)).setCell ⟨R, 5, none⟩ (.slice (some ⟨g, 0, none⟩) n cap)).alloc (.cells #[.int .i64 num, .int .i64 st, .slice ia il ic] 104)).frozen? ⟨R, 7 + num, none⟩ = false := by
    rw [World.frozen?_alloc_old _ _ _ (by simp [World.setCell]; omega)]
    simpa using f7
  have nz : ((((w.setCell ⟨R, 2, none⟩ (.int .i64 on)).setCell ⟨R, 3, none⟩ (.int .i64 os_)).setCell ⟨R, 4, none⟩ (.slice oa ol oc)).setCell ⟨R, 5, none⟩ (.slice (some ⟨g, 0, none⟩) n cap)).heap.size = w.heap.size := by simp [World.setCell]
  have c20 : (((((w.setCell ⟨R, 2, none⟩ (.int .i64 on)).setCell ⟨R, 3, none⟩ (.int .i64 os_)).setCell ⟨R, 4, none⟩ (.slice oa ol oc)).setCell ⟨R, 5, none⟩ (.slice (some ⟨g, 0, none⟩) n cap)).alloc (.cells #[.int .i64 num, .int .i64 st, .slice ia il ic] 104)).cell? ⟨w.heap.size, 0, none⟩ = some (.int .i64 num) := World.cell?_alloc_at _ _ _ _ nz.symm
  have c22 : (((((w.setCell ⟨R, 2, none⟩ (.int .i64 on)).setCell ⟨R, 3, none⟩ (.int .i64 os_)).setCell ⟨R, 4, none⟩ (.slice oa ol oc)).setCell ⟨R, 5, none⟩ (.slice (some ⟨g, 0, none⟩) n cap)).alloc (.cells #[.int .i64 num, .int .i64 st, .slice ia il ic] 104)).cell? ⟨w.heap.size, 2, none⟩ = some (.slice ia il ic) := World.cell?_alloc_at _ _ _ _ nz.symm
  generalize hV : ((((w.setCell ⟨R, 2, none⟩ (.int .i64 on)).setCell ⟨R, 3, none⟩ (.int .i64 os_)).setCell ⟨R, 4, none⟩ (.slice oa ol oc)).setCell ⟨R, 5, none⟩ (.slice (some ⟨g, 0, none⟩) n cap)).alloc (.cells #[.int .i64 num, .int .i64 st, .slice ia il ic] 104) = V at c7 k7 c20 c22 ⊢
  have HV := hd hV
  have hne2 : w.heap.size ≠ R := by omega
  clear hV nz h2 h3 h4 h5 h7 g0 g1 g2 f2 f3 f4 f5 f7
  have kk : (V.setCell ⟨R, 7 + num, none⟩ (.bool true)).cell? ⟨w.heap.size, 0, none⟩ = some (.int .i64 num) := by rw [World.cell?_setCell_far _ _ _ _ (by show R ≠ w.heap.size; omega)]; exact c20
  have kk2 : (V.setCell ⟨R, 7 + num, none⟩ (.bool true)).cell? ⟨w.heap.size, 2, none⟩ = some (.slice ia il ic) := by rw [World.cell?_setCell_far _ _ _ _ (by show R ≠ w.heap.size; omega)]; exact c22
  go_region_held3 (fun w' => w'.cell? ⟨w.heap.size, 0, none⟩ = some (.int .i64 num)) (go_keep) (fail)
  go_wp2_with fail
  refine (Hput.out V _ HV.out.symm).mono ?_
  rintro e w2 ⟨rfl, hq⟩
  have HQ := hd hq
  clear hq
  go_wp2
  go_ret
  exact ⟨rfl, HQ.out⟩

/-- a row that was being read is finished -/
theorem Live.finish {w : World} {base : Nat} {H : Fins} {v : Value} {its : List It} (h : Live w base H v its) (hn : its.length ≤ 1000) (hv : ∀ b, v.ownBlock = some b → H b = none) :
    ∃ H' : Fins, (∀ g arr, H g = some arr → H' g = some arr) ∧ (∀ g arr, H' g = some arr → H g = some arr ∨ (v.ownBlock = some g ∧ w.heap[g]? = some (.cells arr 156 (0, 0)))) ∧
      ∃ D ra rc, v = .slice ra its.length rc ∧ RowFin (ItemOk H' D) H' ra its.length its := by
  obtain ⟨cs, hcs, hown⟩ := h
  rcases hown.2 with ⟨rfl, h0⟩ | ⟨g, cap, cur, rfl, hb, hg, h1, h2, h3, h4⟩
  · exact ⟨H, fun _ _ h => h, fun _ _ h => .inl h, 0, none, 0, by rw [h0], rfl, hn, .inl h0⟩
  · have hle := finAdd_le (arr := cur) (hv g rfl)
    obtain ⟨D, hD⟩ := (hcs.mono hle).deep
    refine ⟨finAdd H g cur, hle, ?_, D, _, cap, rfl, rfl, hn, .inr ⟨g, cur, rfl, by simp [finAdd], fun i hi => ?_⟩⟩
    · intro b arr hb'
      unfold finAdd at hb'
      split at hb'
      · rename_i e
        cases hb'
        subst e
        exact .inr ⟨rfl, hg⟩
      · exact .inl hb'
    · have := hD i hi
      rw [← h4] at this
      unfold itemAt
      rw [List.drop_take, List.take_take, Nat.min_eq_left (by omega)] at this
      exact this

theorem Rd.closed {w V : World} {base R g cap : Nat} {s : ByteArray} {H H' : Fins} {σ : St} {os : List Rw} {r : Rw} {vi v : Value} {rs : List Value} {o1 : Obj}
    (h : Rd w base R s H σ) (hnum : σ.inner.number ≤ 9) (h5 : w.cell? ⟨R, 5, none⟩ = some (.slice (some ⟨g, 0, none⟩) (os.length + 1) cap)) (hvi : w.cell? ⟨R, 4, none⟩ = some vi) (hil : ∀ k, vi.ownBlock = some k → base ≤ k ∧ k < w.heap.size)
    (hlive : Live w base H v r.items) (ho : w.ownsRow base 104 3 (.slice (some ⟨g, 0, none⟩) (os.length + 1) cap) (os.length + 1) (outCells os rs ++ [.int .i64 r.number, .int .i64 r.start, v])) (hout : OutOk w base H rs os) (hap : Apart H (vi :: .slice (some ⟨g, 0, none⟩) (os.length + 1) cap :: (rs ++ [v])))
    (hH : ∀ g arr, H g = some arr → H' g = some arr) (hH' : ∀ g arr, H' g = some arr → H g = some arr ∨ (vi.ownBlock = some g ∧ w.heap[g]? = some (.cells arr 156 (0, 0))))
    (hV : V = ((((w.setCell ⟨R, 2, none⟩ (.int .i64 r.number)).setCell ⟨R, 3, none⟩ (.int .i64 r.start)).setCell ⟨R, 4, none⟩ v).setCell ⟨R, 5, none⟩ (.slice (some ⟨g, 0, none⟩) os.length cap)).alloc o1) :
    Rd (V.setCell ⟨R, 7 + σ.inner.number, none⟩ (.bool true)).drew base R s H' { σ with inner := r, outer := os, closed := fun i => if i = σ.inner.number then true else σ.closed i } ∧ Below R w (V.setCell ⟨R, 7 + σ.inner.number, none⟩ (.bool true)).drew := by
  have hR := h.hR
  have hb := h.hb
  have ne : ∀ (U : World) (i j : Nat) (x : Value), i ≠ j → (U.setCell ⟨R, i, none⟩ x).cell? ⟨R, j, none⟩ = U.cell? ⟨R, j, none⟩ := fun U i j x h => World.cell?_setCell_other _ _ _ _ (by rintro e; cases e; exact h rfl)
  have hVc : ∀ i, V.cell? ⟨R, i, none⟩ = ((((w.setCell ⟨R, 2, none⟩ (.int .i64 r.number)).setCell ⟨R, 3, none⟩ (.int .i64 r.start)).setCell ⟨R, 4, none⟩ v).setCell ⟨R, 5, none⟩ (.slice (some ⟨g, 0, none⟩) os.length cap)).cell? ⟨R, i, none⟩ := by
    intro i
    rw [hV]
    exact World.cell?_alloc_lt _ _ _ (by simp [World.setCell]; omega)
  have hch : Ch w (V.setCell ⟨R, 7 + σ.inner.number, none⟩ (.bool true)).drew R none [2, 3, 4, 5, 7 + σ.inner.number] := by
    rw [hV]
    exact ((((((Ch.refl w R none [2, 3, 4, 5, 7 + σ.inner.number]).put 2 (by simp) _).put 3 (by simp) _).put 4 (by simp) _).put 5 (by simp) _).alloc (by omega) o1 |>.put (7 + σ.inner.number) (by simp) _).drew
  have cl : ∀ i, i ≠ 2 → i ≠ 3 → i ≠ 4 → i ≠ 5 → i ≠ 7 + σ.inner.number → (V.setCell ⟨R, 7 + σ.inner.number, none⟩ (.bool true)).drew.cell? ⟨R, i, none⟩ = w.cell? ⟨R, i, none⟩ := fun i a b c d e => hch.cell i (by simp; omega)
  have m2 : (V.setCell ⟨R, 7 + σ.inner.number, none⟩ (.bool true)).cell? ⟨R, 2, none⟩ = some (.int .i64 r.number) := by
    rw [ne _ _ _ _ (by omega), hVc, ne _ _ _ _ (by omega), ne _ _ _ _ (by omega), ne _ _ _ _ (by omega)]; exact World.cell?_setCell_same _ _ _ h.c2
  have m3 : (V.setCell ⟨R, 7 + σ.inner.number, none⟩ (.bool true)).cell? ⟨R, 3, none⟩ = some (.int .i64 r.start) := by
    rw [ne _ _ _ _ (by omega), hVc, ne _ _ _ _ (by omega), ne _ _ _ _ (by omega)]; exact World.cell?_setCell_same _ _ _ (u := .int .i64 σ.inner.start) (by rw [ne _ _ _ _ (by omega)]; exact h.c3)
  have m4 : (V.setCell ⟨R, 7 + σ.inner.number, none⟩ (.bool true)).cell? ⟨R, 4, none⟩ = some v := by
    rw [ne _ _ _ _ (by omega), hVc, ne _ _ _ _ (by omega)]; exact World.cell?_setCell_same _ _ _ (u := vi) (by rw [ne _ _ _ _ (by omega), ne _ _ _ _ (by omega)]; exact hvi)
  have m5 : (V.setCell ⟨R, 7 + σ.inner.number, none⟩ (.bool true)).cell? ⟨R, 5, none⟩ = some (.slice (some ⟨g, 0, none⟩) os.length cap) := by
    rw [ne _ _ _ _ (by omega), hVc]; exact World.cell?_setCell_same _ _ _ (u := .slice (some ⟨g, 0, none⟩) (os.length + 1) cap) (by rw [ne _ _ _ _ (by omega), ne _ _ _ _ (by omega), ne _ _ _ _ (by omega)]; exact h5)
  have m7 : (V.setCell ⟨R, 7 + σ.inner.number, none⟩ (.bool true)).cell? ⟨R, 7 + σ.inner.number, none⟩ = some (.bool true) :=
    World.cell?_setCell_same _ _ _ (u := .bool (σ.closed σ.inner.number)) (by rw [hVc, ne _ _ _ _ (by omega), ne _ _ _ _ (by omega), ne _ _ _ _ (by omega), ne _ _ _ _ (by omega)]; exact h.c7 _ (by omega))
  have blk : ∀ k, base ≤ k → k < w.heap.size → (V.setCell ⟨R, 7 + σ.inner.number, none⟩ (.bool true)).drew.heap[k]? = w.heap[k]? := fun k h1 h2 => hch.block k h2 (by omega) (by simp)
  obtain ⟨lcs, hlcs, hlown⟩ := hlive
  have hgo := ho.lt g rfl
  refine ⟨⟨hR, Nat.le_trans hb hch.size, (cl 0 (by omega) (by omega) (by omega) (by omega) (by omega)).trans h.c0, (cl 1 (by omega) (by omega) (by omega) (by omega) (by omega)).trans h.c1, m2, m3, (cl 6 (by omega) (by omega) (by omega) (by omega) (by omega)).trans h.c6, ?_, h.rf.ch hch (by simp; omega) hR (fun k hk => by cases hk),
    fun i hi => (hch.frozen i).trans (h.fz i hi), ?_, ?_, ?_⟩, hch.below (by omega) (fun k hk => by cases hk)⟩
  · intro i hi
    show (V.setCell ⟨R, 7 + σ.inner.number, none⟩ (.bool true)).drew.cell? ⟨R, 7 + i, none⟩ = some (.bool (if i = σ.inner.number then true else σ.closed i))
    by_cases e : i = σ.inner.number
    · rw [if_pos e, e]; exact m7
    · rw [if_neg e]; exact (cl _ (by omega) (by omega) (by omega) (by omega) (by omega)).trans (h.c7 i hi)
  · intro k arr hk
    rcases hH' k arr hk with hk | ⟨hk, hw⟩
    · rw [blk k (h.finb k arr hk) (h.fin.lt hk)]; exact h.fin k arr hk
    · have := hil k hk
      rw [blk k this.1 this.2]; exact hw
  · intro k arr hk
    rcases hH' k arr hk with hk | ⟨hk, _⟩
    · exact h.finb k arr hk
    · exact (hil k hk).1
  · refine ⟨v, .slice (some ⟨g, 0, none⟩) os.length cap, rs, m4, m5, ⟨lcs, hlcs.mono hH, owns_same hlown (fun k hk => blk k (hlown.lt k hk).1 (hlown.lt k hk).2)⟩, owns_same (owns_pop ho (outCells_len hout.length)) (fun k hk => by cases hk; exact blk g hgo.1 hgo.2), (hout.mono hH).same (fun u hu k hk => blk k (hout.lt u hu k hk).1 (hout.lt u hu k hk).2), ?_⟩
    have hmem : ∀ b, b ∈ (v :: Value.slice (some ⟨g, 0, none⟩) os.length cap :: rs).filterMap Value.ownBlock → b ∈ (Value.slice (some ⟨g, 0, none⟩) (os.length + 1) cap :: (rs ++ [v])).filterMap Value.ownBlock := by
      intro b hb'
      obtain ⟨u, hu, hk⟩ := List.mem_filterMap.1 hb'
      rcases List.mem_cons.1 hu with rfl | hu
      · exact mem_blocks (v := u) (by simp) hk
      · rcases List.mem_cons.1 hu with rfl | hu
        · exact mem_blocks (v := .slice (some ⟨g, 0, none⟩) (os.length + 1) cap) (by simp) hk
        · exact mem_blocks (v := u) (by simp [hu]) hk
    have hn1 : ((Value.slice (some ⟨g, 0, none⟩) (os.length + 1) cap :: (rs ++ [v])).filterMap Value.ownBlock).Nodup := by
      have hn := hap.1
      rw [List.filterMap_cons] at hn
      split at hn
      · exact hn
      · exact (List.nodup_cons.1 hn).2
    have hpm : (Value.slice (some ⟨g, 0, none⟩) (os.length + 1) cap :: (rs ++ [v])).Perm (v :: Value.slice (some ⟨g, 0, none⟩) (os.length + 1) cap :: rs) :=
      (List.Perm.cons _ (List.perm_append_singleton v rs)).trans (List.Perm.swap _ _ _)
    have hn2 := (hpm.filterMap Value.ownBlock).nodup_iff.1 hn1
    refine ⟨?_, ?_⟩
    · rw [List.filterMap_cons, List.filterMap_cons] at hn2 ⊢
      exact hn2
    · intro b hb'
      have hm := hmem b hb'
      have hbn : H b = none := hap.2 b (by
        rw [List.filterMap_cons]
        split
        · exact hm
        · exact List.mem_cons_of_mem _ hm)
      cases hx : H' b with
      | none => rfl
      | some arr =>
        rcases hH' b arr hx with hx | ⟨hx, _⟩
        · rw [hbn] at hx; cases hx
        · have hn := hap.1
          rw [List.filterMap_cons, hx] at hn
          exact absurd hm (List.nodup_cons.1 hn).1

/-- CLOSEGROUP, of a reader. -/
theorem closeGroup_rd {w : World} {base R : Nat} {s : ByteArray} {H : Fins} {σ : St} (h : Rd w base R s H σ) (os : List Rw) (r : Rw) (hos : σ.outer = os ++ [r]) (hp : σ.pos ≤ 1000) (hn : os.length ≤ 1000) (hin : σ.inner.items.length ≤ 1000) (hrn : r.items.length ≤ 1000) (hnum : σ.inner.number ≤ 9) :
    Calls Tryd.prog 78 #[.pointer (some ⟨R, 0, none⟩)] w fun e w' => e = .returned (.int .i64 0) ∧
      ∃ H', Rd w' base R s H' { σ with pos := σ.pos + 2, inner := { r with items := r.items ++ [itGrp σ.inner.number σ.inner.items] }, outer := os, closed := fun i => if i = σ.inner.number then true else σ.closed i } ∧ Below R w w' := by
  obtain ⟨vi, vo, rs0, h4, h5, hlive, ho, hout, hap⟩ := h.rows
  rw [hos] at ho hout
  obtain ⟨rs, v, rfl, hout', hlv⟩ := hout.unsnoc
  rw [outCells_snoc hout'.length] at ho
  simp only [List.length_append, List.length_singleton] at ho
  obtain ⟨g, cap, rfl, _, _⟩ := ho.form (by omega)
  obtain ⟨oa, oc, hv⟩ := hlv.shape
  have hil : ∀ k, vi.ownBlock = some k → base ≤ k ∧ k < w.heap.size := by
    obtain ⟨_, _, hx⟩ := hlive
    exact hx.lt
  obtain ⟨H', hH, hH', D, ia, ic, hvi, hfin⟩ := hlive.finish hin (fun b hb => hap.2 b (mem_blocks (v := vi) (by simp) hb))
  obtain ⟨cur, hgb, hg, hc1, hc2, hc3, _, _⟩ := owns_cells ho
  have hgR : g ≠ R := by have := h.hR; omega
  have hcell : ∀ j u, ([.int .i64 r.number, .int .i64 r.start, v] : List Value)[j]? = some u → w.cell? ⟨g, os.length * 3 + j, none⟩ = some u := by
    intro j u hu
    refine owns_cell ho _ u ?_
    rw [List.getElem?_append_right (by rw [outCells_len hout'.length]; omega), outCells_len hout'.length, show os.length * 3 + j - os.length * 3 = j by omega]
    exact hu
  have h4' : w.cell? ⟨R, 4, none⟩ = some (.slice ia σ.inner.items.length ic) := by rw [← hvi]; exact h4
  have g2 : w.cell? ⟨g, os.length * 3 + 2, none⟩ = some (.slice oa r.items.length oc) := by rw [← hv]; exact hcell 2 _ rfl
  refine closeGroup_walk R g os.length cap σ.inner.number σ.inner.start r.number r.start ia σ.inner.items.length ic oa r.items.length oc w (σ.closed σ.inner.number) h.c2 h.c3 h4' h5 (h.c7 _ (by omega)) h.fz (hcell 0 _ rfl) (hcell 1 _ rfl) g2 hn (by omega) (by unfold maxLen at hc2; omega) hnum hgR
    (fun w' => ∃ H', Rd w' base R s H' { σ with pos := σ.pos + 2, inner := { r with items := r.items ++ [itGrp σ.inner.number σ.inner.items] }, outer := os, closed := fun i => if i = σ.inner.number then true else σ.closed i } ∧ Below R w w') ?_
  intro V o1 hV
  rw [← hv] at hV
  have hmid := h.closed hnum h5 h4 hil hlv ho hout' hap hH hH' hV
  have hbd : 0 ≤ rowSz (σ.inner.items.map (·.2)) ∧ rowSz (σ.inner.items.map (·.2)) ≤ 201 := by
    refine rowGo_bd _ 1 (by omega) (by omega) (fun y hy => ?_)
    obtain ⟨z, hz, rfl⟩ := List.mem_map.1 hy
    obtain ⟨_, _, hrow⟩ := hfin
    rcases hrow with hx | ⟨_, _, _, _, hP⟩
    · rw [List.length_eq_zero_iff.1 hx] at hz; simp at hz
    · obtain ⟨i, hi, rfl⟩ := List.getElem_of_mem hz
      exact (hP i hi).bd
  have hok : ∃ d, ItemOk H' d [.int .i64 4, .int .u32 0, .int .u32 0, .int .u32 0, .int .u32 0, .int .u32 0, .int .u32 0, .int .u32 0, .int .u32 0, .int .i64 σ.inner.number, .int .i64 0, .int .i64 0, .slice ia σ.inner.items.length ic] (itGrp σ.inner.number σ.inner.items) :=
    ⟨D + 1, fun _ => 0, σ.inner.number, 0, 0, ia, σ.inner.items.length, ic, rfl, by show (0 : Int) ≤ 4; omega, by show (4 : Int) ≤ 5; omega, by show 0 ≤ 1 + rowSz _; omega, by show 1 + rowSz _ ≤ 202; omega, .inl ⟨rfl, σ.inner.items, hfin, rfl, σ.inner.number, rfl, rfl⟩⟩
  refine (put_rd hmid.1 2 (by omega) hp hrn 4 0 0 0 0 0 0 0 0 σ.inner.number 0 0 ia σ.inner.items.length ic _ hok).mono ?_
  rintro e w' ⟨rfl, hrd, hbw⟩
  exact ⟨rfl, H', hrd, hmid.2.trans hbw⟩
end Go.Proofs.YtldiemjlpnachaaDoor
