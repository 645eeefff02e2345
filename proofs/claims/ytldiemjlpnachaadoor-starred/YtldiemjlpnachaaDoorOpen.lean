import Derived.Test.YtldiemjlpnachaaDoorByte
namespace Go.Proofs.YtldiemjlpnachaaDoor
open Go.RowKit
attribute [local go_sem ↓] Go.wp_at_zero Go.wp_at_succ

theorem info_row : (Tryd.prog.info? 104).map (fun i => (i.zero, i.size, i.bytes)) = some (some (.agg #[.int .i64 0, .int .i64 0, .slice none 0 0]), 3, 40) := by kernel_rfl

/-- the reader when only new memory has come -/
theorem Rd.below {w w' : World} {base R : Nat} {s : ByteArray} {H : Fins} {σ : St} (h : Rd w base R s H σ) (hb : Below w.heap.size w w') : Rd w' base R s H σ := by
  have hR := h.hR
  have hbs := h.hb
  have cl : ∀ i, w'.cell? ⟨R, i, none⟩ = w.cell? ⟨R, i, none⟩ := fun i => hb.cell (by show R < _; omega)
  obtain ⟨vi, vo, rs, h4, h5, hlive, ho, hout, hap⟩ := h.rows
  obtain ⟨cs, hcs, hown⟩ := hlive
  refine ⟨hR, Nat.le_trans hbs hb.size, (cl 0).trans h.c0, (cl 1).trans h.c1, (cl 2).trans h.c2, (cl 3).trans h.c3, (cl 6).trans h.c6, fun i hi => (cl _).trans (h.c7 i hi), h.rf.below hb,
    fun i hi => (hb.frozen (by show R < _; omega)).trans (h.fz i hi), fun g arr hg => (hb.block g (h.fin.lt hg)).trans (h.fin g arr hg), h.finb,
    vi, vo, rs, (cl 4).trans h4, (cl 5).trans h5, ⟨cs, hcs, owns_same hown (fun k hk => hb.block k (hown.lt k hk).2)⟩, owns_same ho (fun k hk => hb.block k (ho.lt k hk).2), hout.same (fun v hv k hk => hb.block k (hout.lt v hv k hk).2), hap⟩

/-- behind the stack's growth -/
def OMid (w w' : World) (R base : Nat) (v : Value) (n : Nat) (xs cs : List Value) (pos gr : Int) : Prop :=
  ∃ g cap, w'.cell? ⟨R, 5, none⟩ = some (.slice (some ⟨g, 0, none⟩) (n + 1) cap) ∧ w'.cell? ⟨R, 1, none⟩ = some (.int .i64 pos) ∧ w'.cell? ⟨R, 6, none⟩ = some (.int .i64 gr) ∧ w'.ownsRow base 104 3 (.slice (some ⟨g, 0, none⟩) (n + 1) cap) (n + 1) (xs ++ cs) ∧
    (v.ownBlock = some g ∨ w.heap.size ≤ g) ∧ g < w'.heap.size ∧ g ≠ R ∧ Ch w w' R v.ownBlock [1, 2, 3, 4, 5, 6] ∧ (∃ u, w'.cell? ⟨R, 2, none⟩ = some u) ∧ (∃ u, w'.cell? ⟨R, 3, none⟩ = some u) ∧ (∃ u, w'.cell? ⟨R, 4, none⟩ = some u)
theorem omid {w w1 : World} {R base g n cap : Nat} {v r5 : Value} {xs cs : List Value} {o1 : Obj} {x6 : Value} (pos gr : Int) (hR : R < base) (hbase : base ≤ w.heap.size) (ag : v.ownBlock ≠ some R)
    (hown1 : w1.ownsRow base 104 3 (.slice (some ⟨g, 0, none⟩) (n + 1) cap) (n + 1) (xs ++ cs)) (hgrow : ((w.setCell ⟨R, 6, none⟩ x6).alloc o1).drew.grownBy w1 v.ownBlock) (hat : v.ownBlock = some g ∨ g = w.heap.size + 1) (hlt : g < w1.heap.size)
    (h1 : w1.cell? ⟨R, 1, none⟩ = some (.int .i64 pos)) (h5 : w1.cell? ⟨R, 5, none⟩ = some r5) (h6 : w1.cell? ⟨R, 6, none⟩ = some (.int .i64 gr)) {y2 y3 y4 : Value} (k2 : w1.cell? ⟨R, 2, none⟩ = some y2) (k3 : w1.cell? ⟨R, 3, none⟩ = some y3) (k4 : w1.cell? ⟨R, 4, none⟩ = some y4) :
    OMid w (w1.setCell ⟨R, 5, none⟩ (.slice (some ⟨g, 0, none⟩) (n + 1) cap)) R base v n xs cs pos gr := by
  have hg : g ≠ R := by
    have := (owns_cells hown1).choose_spec.1
    omega
  have hat' : v.ownBlock = some g ∨ w.heap.size ≤ g := by
    rcases hat with h | h
    · exact .inl h
    · right; omega
  have hch : Ch w w1 R v.ownBlock [1, 2, 3, 4, 5, 6] := ((((Ch.refl w R v.ownBlock [1, 2, 3, 4, 5, 6]).put 6 (by simp) x6).alloc (by omega) o1).drew).grown hgrow (by omega) ag
  exact ⟨g, cap, World.cell?_setCell_same _ _ _ h5, by rw [World.cell?_setCell_other _ _ _ _ (by simp)]; exact h1, by rw [World.cell?_setCell_other _ _ _ _ (by simp)]; exact h6, ownsRow_setCell_other hown1 (by simp [Value.ownBlock]; exact hg) _, hat', by simp [World.setCell]; exact hlt, hg, hch.put 5 (by simp) _, ⟨y2, by rw [World.cell?_setCell_other _ _ _ _ (by simp)]; exact k2⟩, ⟨y3, by rw [World.cell?_setCell_other _ _ _ _ (by simp)]; exact k3⟩, ⟨y4, by rw [World.cell?_setCell_other _ _ _ _ (by simp)]; exact k4⟩⟩

theorem heap_one (w : World) (a : Addr) (v : Value) (o : Obj) : ((w.setCell a v).alloc o).drew.heap[w.heap.size]? = some o := by
  have h := heap_alloc_new (w.setCell a v) o
  rw [show (w.setCell a v).heap.size = w.heap.size by simp [World.setCell]] at h
  exact h
theorem open_pre {w w1 : World} {R : Nat} {v x6 : Value} {o1 : Obj} (hgrow : ((w.setCell ⟨R, 6, none⟩ x6).alloc o1).drew.grownBy w1 v.ownBlock) (lR : R < w.heap.size) (ag : v.ownBlock ≠ some R) (i : Nat) : w1.cell? ⟨R, i, none⟩ = (w.setCell ⟨R, 6, none⟩ x6).cell? ⟨R, i, none⟩ ∧ w1.frozen? ⟨R, i, none⟩ = w.frozen? ⟨R, i, none⟩ := by
  have hsz : (w.setCell ⟨R, 6, none⟩ x6).heap.size = w.heap.size := by simp [World.setCell]
  constructor
  · rw [hgrow.cell_far _ (by simp [World.setCell]; omega) (Ne.symm ag)]
    exact World.cell?_alloc_lt _ _ _ (by rw [hsz]; exact lR)
  · rw [hgrow.frozen_far _ (by simp [World.setCell]; omega) (Ne.symm ag)]
    exact (World.frozen?_alloc_old _ _ _ (by rw [hsz]; show R ≠ _; omega)).trans (World.frozen?_setCell _ _ _ _)
set_option maxRecDepth 100000 in
set_option maxHeartbeats 3200000 in
theorem openGroup_walk (R n cp base num st pos gr : Nat) (ao : Option Addr) (ia : Option Addr) (il ic : Nat) (xs : List Value) (w : World)
    (h1 : w.cell? ⟨R, 1, none⟩ = some (.int .i64 pos)) (h2 : w.cell? ⟨R, 2, none⟩ = some (.int .i64 num)) (h3 : w.cell? ⟨R, 3, none⟩ = some (.int .i64 st)) (h4 : w.cell? ⟨R, 4, none⟩ = some (.slice ia il ic)) (h5 : w.cell? ⟨R, 5, none⟩ = some (.slice ao n cp)) (h6 : w.cell? ⟨R, 6, none⟩ = some (.int .i64 gr))
    (fz : ∀ i, i < 18 → w.frozen? ⟨R, i, none⟩ = false) (hp : pos ≤ 1000) (hgr : gr < 9) (hown : w.ownsRow base 104 3 (.slice ao n cp) n xs) (hbase : base ≤ w.heap.size) (hn : n ≤ 1000) (hR : R < base) :
    Calls Tryd.prog 77 #[.pointer (some ⟨R, 0, none⟩)] w fun e w' => e = .returned (.int .i64 0) ∧
      ∃ W, OMid w W R base (.slice ao n cp) n xs [.int .i64 num, .int .i64 st, .slice ia il ic] pos ((gr : Int) + 1) ∧ w' = ((((W.setCell ⟨R, 2, none⟩ (.int .i64 ((gr : Int) + 1))).setCell ⟨R, 3, none⟩ (.int .i64 pos)).setCell ⟨R, 4, none⟩ (.slice none 0 0)).setCell ⟨R, 1, none⟩ (.int .i64 ((pos : Int) + 2))).drew := by
  obtain ⟨i0, hi0, hz0, hz1, hz2⟩ := info_parts info_row
  have lR := World.block_lt_of_cell? w _ h1
  have ag : (Value.slice ao n cp).ownBlock ≠ some R := by
    intro e
    have := (hown.lt R e).1
    omega
  have f1 := fz 1 (by omega)
  have f2 := fz 2 (by omega)
  have f3 := fz 3 (by omega)
  have f4 := fz 4 (by omega)
  have f5 := fz 5 (by omega)
  have f6 := fz 6 (by omega)
  have Hfz := hd fz
  clear fz
  go_enter Tryd.func77, Tryd.ntmps77
  go_wp2_with fail
  have hown6 : (w.setCell ⟨R, 6, none⟩ (.int .i64 ((gr : Int) + 1))).ownsRow base 104 3 (.slice ao n cp) n xs := ownsRow_setCell_other hown (by simpa using ag) _
  go_region_law
    ((refine step_append_lies _ (by rfl) _ _ _ (by rfl) base 104 i0 _ 3 40 Tryd.underlying105 hi0 hz0 hz1 hz2 rfl (by omega) (.slice ao n cp) n xs (by rfl) ((hown6.alloc _).drew)
        ⟨w.heap.size, 0, none⟩ 1 1 [.int .i64 num, .int .i64 st, .slice ia il ic] (by rfl) (by rfl) (World.news_of_block (cs := #[.int .i64 num, .int .i64 st, .slice ia il ic]) (t := 104) (fr := (0, 0)) (heap_one w _ _ _)) (by simp [Value.oneCell'])
        (by omega) (by unfold maxLen; omega) (by omega) (by simp [World.setCell]; omega) (w.heap.size + 1) (by simp [World.setCell]) ?_; intro g cap w1 hown1 hgrow hat hlt; have r1 : w1.cell? ⟨R, 1, none⟩ = some (.int .i64 pos) := (open_pre hgrow lR ag 1).1.trans (by rw [World.cell?_setCell_other _ _ _ _ (by simp)]; exact h1); have r5 : w1.cell? ⟨R, 5, none⟩ = some (.slice ao n cp) := (open_pre hgrow lR ag 5).1.trans (by rw [World.cell?_setCell_other _ _ _ _ (by simp)]; exact h5); have r6 : w1.cell? ⟨R, 6, none⟩ = some (.int .i64 ((gr : Int) + 1)) := (open_pre hgrow lR ag 6).1.trans (World.cell?_setCell_same _ _ _ h6); have rf5 : w1.frozen? ⟨R, 5, none⟩ = false := (open_pre hgrow lR ag 5).2.trans f5))
  all_goals
    have s2 : w1.cell? ⟨R, 2, none⟩ = some (.int .i64 num) := by rw [(open_pre hgrow lR ag 2).1, World.cell?_setCell_other _ _ _ _ (by simp)]; exact h2
    have s3 : w1.cell? ⟨R, 3, none⟩ = some (.int .i64 st) := by rw [(open_pre hgrow lR ag 3).1, World.cell?_setCell_other _ _ _ _ (by simp)]; exact h3
    have s4 : w1.cell? ⟨R, 4, none⟩ = some (.slice ia il ic) := by rw [(open_pre hgrow lR ag 4).1, World.cell?_setCell_other _ _ _ _ (by simp)]; exact h4
    have hM := omid (w := w) pos ((gr : Int) + 1) hR hbase ag hown1 hgrow hat hlt r1 r5 r6 s2 s3 s4
    have rc2 : (w1.setCell ⟨R, 5, none⟩ (.slice (some ⟨g, 0, none⟩) (n + 1) cap)).cell? ⟨R, 2, none⟩ = some (.int .i64 num) := by rw [World.cell?_setCell_other _ _ _ _ (by simp)]; exact s2
    have rc3 : (w1.setCell ⟨R, 5, none⟩ (.slice (some ⟨g, 0, none⟩) (n + 1) cap)).cell? ⟨R, 3, none⟩ = some (.int .i64 st) := by rw [World.cell?_setCell_other _ _ _ _ (by simp)]; exact s3
    have rc4 : (w1.setCell ⟨R, 5, none⟩ (.slice (some ⟨g, 0, none⟩) (n + 1) cap)).cell? ⟨R, 4, none⟩ = some (.slice ia il ic) := by rw [World.cell?_setCell_other _ _ _ _ (by simp)]; exact s4
    have rf : ∀ i, i < 18 → (w1.setCell ⟨R, 5, none⟩ (.slice (some ⟨g, 0, none⟩) (n + 1) cap)).frozen? ⟨R, i, none⟩ = false := fun i hi => by rw [World.frozen?_setCell, (open_pre hgrow lR ag i).2]; exact Hfz.out i hi
    clear hown1 hgrow hat hlt r1 r5 r6 rf5 s2 s3 s4
    generalize w1.setCell ⟨R, 5, none⟩ (.slice (some ⟨g, 0, none⟩) (n + 1) cap) = W at hM rc2 rc3 rc4 rf ⊢
    have rc1 : W.cell? ⟨R, 1, none⟩ = some (.int .i64 pos) := by obtain ⟨_, _, _, h, _⟩ := hM; exact h
    have rc6 : W.cell? ⟨R, 6, none⟩ = some (.int .i64 ((gr : Int) + 1)) := by obtain ⟨_, _, _, _, h, _⟩ := hM; exact h
    have rf1 := rf 1 (by omega)
    have rf2 := rf 2 (by omega)
    have rf3 := rf 3 (by omega)
    have rf4 := rf 4 (by omega)
    have HM := hd hM
    clear hM rf h1 h2 h3 h4 h5 h6 f1 f2 f3 f4 f5 f6 hown hown6
    go_wp2
  all_goals go_region
  all_goals
    go_wp2
    go_ret
    exact ⟨rfl, W, HM.out, rfl⟩

theorem set4 {W : World} {R : Nat} (x1 x2 x3 x4 : Value) (h1 : ∃ u, W.cell? ⟨R, 1, none⟩ = some u) (h2 : ∃ u, W.cell? ⟨R, 2, none⟩ = some u) (h3 : ∃ u, W.cell? ⟨R, 3, none⟩ = some u) (h4 : ∃ u, W.cell? ⟨R, 4, none⟩ = some u) :
    ((((W.setCell ⟨R, 2, none⟩ x2).setCell ⟨R, 3, none⟩ x3).setCell ⟨R, 4, none⟩ x4).setCell ⟨R, 1, none⟩ x1).cell? ⟨R, 1, none⟩ = some x1 ∧ ((((W.setCell ⟨R, 2, none⟩ x2).setCell ⟨R, 3, none⟩ x3).setCell ⟨R, 4, none⟩ x4).setCell ⟨R, 1, none⟩ x1).cell? ⟨R, 2, none⟩ = some x2 ∧
    ((((W.setCell ⟨R, 2, none⟩ x2).setCell ⟨R, 3, none⟩ x3).setCell ⟨R, 4, none⟩ x4).setCell ⟨R, 1, none⟩ x1).cell? ⟨R, 3, none⟩ = some x3 ∧ ((((W.setCell ⟨R, 2, none⟩ x2).setCell ⟨R, 3, none⟩ x3).setCell ⟨R, 4, none⟩ x4).setCell ⟨R, 1, none⟩ x1).cell? ⟨R, 4, none⟩ = some x4 ∧
    ∀ i, i ≠ 1 → i ≠ 2 → i ≠ 3 → i ≠ 4 → ((((W.setCell ⟨R, 2, none⟩ x2).setCell ⟨R, 3, none⟩ x3).setCell ⟨R, 4, none⟩ x4).setCell ⟨R, 1, none⟩ x1).cell? ⟨R, i, none⟩ = W.cell? ⟨R, i, none⟩ := by
  obtain ⟨u1, h1⟩ := h1
  obtain ⟨u2, h2⟩ := h2
  obtain ⟨u3, h3⟩ := h3
  obtain ⟨u4, h4⟩ := h4
  have ne : ∀ (V : World) (i j : Nat) (x : Value), i ≠ j → (V.setCell ⟨R, i, none⟩ x).cell? ⟨R, j, none⟩ = V.cell? ⟨R, j, none⟩ := fun V i j x h => World.cell?_setCell_other _ _ _ _ (by rintro e; cases e; exact h rfl)
  refine ⟨World.cell?_setCell_same _ _ _ (u := u1) ?_, ?_, ?_, ?_, ?_⟩
  · rw [ne _ _ _ _ (by omega), ne _ _ _ _ (by omega), ne _ _ _ _ (by omega)]; exact h1
  · rw [ne _ _ _ _ (by omega), ne _ _ _ _ (by omega), ne _ _ _ _ (by omega)]; exact World.cell?_setCell_same _ _ _ h2
  · rw [ne _ _ _ _ (by omega), ne _ _ _ _ (by omega)]; exact World.cell?_setCell_same _ _ _ (u := u3) (by rw [ne _ _ _ _ (by omega)]; exact h3)
  · rw [ne _ _ _ _ (by omega)]; exact World.cell?_setCell_same _ _ _ (u := u4) (by rw [ne _ _ _ _ (by omega), ne _ _ _ _ (by omega)]; exact h4)
  · intro i i1 i2 i3 i4
    rw [ne _ _ _ _ (by omega), ne _ _ _ _ (by omega), ne _ _ _ _ (by omega), ne _ _ _ _ (by omega)]

theorem Rd.opened {w W : World} {base R : Nat} {s : ByteArray} {H : Fins} {σ : St} {vi vo : Value} {rs : List Value}
    (h : Rd w base R s H σ) (hlive : Live w base H vi σ.inner.items) (ho : w.ownsRow base 104 3 vo σ.outer.length (outCells σ.outer rs)) (hout : OutOk w base H rs σ.outer) (hap : Apart H (vi :: vo :: rs))
    (hM : OMid w W R base vo σ.outer.length (outCells σ.outer rs) [.int .i64 σ.inner.number, .int .i64 σ.inner.start, vi] σ.pos ((σ.groups : Int) + 1)) :
    Rd ((((W.setCell ⟨R, 2, none⟩ (.int .i64 ((σ.groups : Int) + 1))).setCell ⟨R, 3, none⟩ (.int .i64 σ.pos)).setCell ⟨R, 4, none⟩ (.slice none 0 0)).setCell ⟨R, 1, none⟩ (.int .i64 ((σ.pos : Int) + 2))).drew base R s H
        { σ with pos := σ.pos + 2, inner := ⟨σ.groups + 1, σ.pos, []⟩, outer := σ.outer ++ [σ.inner], groups := σ.groups + 1 } ∧
      Below R w ((((W.setCell ⟨R, 2, none⟩ (.int .i64 ((σ.groups : Int) + 1))).setCell ⟨R, 3, none⟩ (.int .i64 σ.pos)).setCell ⟨R, 4, none⟩ (.slice none 0 0)).setCell ⟨R, 1, none⟩ (.int .i64 ((σ.pos : Int) + 2))).drew := by
  obtain ⟨g, cap, e5, e1, e6, hown, hat, hlt, hgR, hch, x2, x3, x4⟩ := hM
  have hR := h.hR
  have hb := h.hb
  obtain ⟨m1, m2, m3, m4, mm⟩ := set4 (.int .i64 ((σ.pos : Int) + 2)) (.int .i64 ((σ.groups : Int) + 1)) (.int .i64 σ.pos) (.slice none 0 0) ⟨_, e1⟩ x2 x3 x4
  have hch' := (((hch.put 2 (by simp) (.int .i64 ((σ.groups : Int) + 1))).put 3 (by simp) (.int .i64 σ.pos)).put 4 (by simp) (.slice none 0 0)).put 1 (by simp) (.int .i64 ((σ.pos : Int) + 2))
  have hown' : ((((W.setCell ⟨R, 2, none⟩ (.int .i64 ((σ.groups : Int) + 1))).setCell ⟨R, 3, none⟩ (.int .i64 σ.pos)).setCell ⟨R, 4, none⟩ (.slice none 0 0)).setCell ⟨R, 1, none⟩ (.int .i64 ((σ.pos : Int) + 2))).ownsRow base 104 3 (.slice (some ⟨g, 0, none⟩) (σ.outer.length + 1) cap) (σ.outer.length + 1) (outCells σ.outer rs ++ [.int .i64 σ.inner.number, .int .i64 σ.inner.start, vi]) := by
    have hne : ∀ i, (Value.slice (some ⟨g, 0, none⟩) (σ.outer.length + 1) cap).ownBlock ≠ some (⟨R, i, none⟩ : Addr).block := by intro i; simp [Value.ownBlock]; exact hgR
    exact ownsRow_setCell_other (ownsRow_setCell_other (ownsRow_setCell_other (ownsRow_setCell_other hown (hne 2) _) (hne 3) _) (hne 4) _) (hne 1) _
  generalize (((W.setCell ⟨R, 2, none⟩ (.int .i64 ((σ.groups : Int) + 1))).setCell ⟨R, 3, none⟩ (.int .i64 σ.pos)).setCell ⟨R, 4, none⟩ (.slice none 0 0)).setCell ⟨R, 1, none⟩ (.int .i64 ((σ.pos : Int) + 2)) = W' at *
  obtain ⟨lcs, hlcs, hlown⟩ := hlive
  have others : ∀ v ∈ vi :: rs, ∀ k, v.ownBlock = some k → base ≤ k ∧ k < w.heap.size := by
    intro v hv k hk
    rcases List.mem_cons.1 hv with rfl | hv
    · exact hlown.lt k hk
    · exact hout.lt v hv k hk
  have hperm : ∀ v ∈ vi :: rs, ∀ k, v.ownBlock = some k → some k ≠ vo.ownBlock := by
    intro v hv k hk e
    have hn := hap.1
    rcases List.mem_cons.1 hv with rfl | hv
    · rw [List.filterMap_cons, hk] at hn
      exact (List.nodup_cons.1 hn).1 (mem_blocks (v := vo) (by simp) e.symm)
    · have hn2 : ((vo :: rs).filterMap Value.ownBlock).Nodup := by
        rw [List.filterMap_cons] at hn
        split at hn
        · exact hn
        · exact (List.nodup_cons.1 hn).2
      rw [List.filterMap_cons, ← e] at hn2
      exact (List.nodup_cons.1 hn2).1 (mem_blocks hv hk)
  have blk : ∀ v ∈ vi :: rs, ∀ k, v.ownBlock = some k → W'.heap[k]? = w.heap[k]? := by
    intro v hv k hk
    have := others v hv k hk
    exact hch'.block k this.2 (by omega) (hperm v hv k hk)
  have hfb : ∀ k arr, H k = some arr → some k ≠ vo.ownBlock := by
    intro k arr hk e
    have := hap.2 k (mem_blocks (v := vo) (by simp) e.symm)
    rw [this] at hk
    cases hk
  have cl : ∀ i, i ≠ 1 → i ≠ 2 → i ≠ 3 → i ≠ 4 → i ≠ 5 → i ≠ 6 → W'.cell? ⟨R, i, none⟩ = w.cell? ⟨R, i, none⟩ := fun i a1 a2 a3 a4 a5 a6 => hch'.cell i (by simp; omega)
  refine ⟨⟨hR, Nat.le_trans hb hch'.size, (cl 0 (by omega) (by omega) (by omega) (by omega) (by omega) (by omega)).trans h.c0, ?_, ?_, m3, ?_, fun i hi => (cl _ (by omega) (by omega) (by omega) (by omega) (by omega) (by omega)).trans (h.c7 i hi), (h.rf.ch hch' (by simp) hR (fun k hk => by obtain ⟨cur, hc⟩ := owns_typ ho hk; exact ⟨cur, _, hc, by decide⟩)).drew, fun i hi => (hch'.frozen i).trans (h.fz i hi), fun k arr hk => ?_, h.finb, ?_⟩, (hch'.below (by omega) (fun k hk => by have := (ho.lt k hk).1; omega)).drew⟩
  · simpa using m1
  · simpa using m2
  · have := (mm 6 (by omega) (by omega) (by omega) (by omega)).trans e6
    simpa using this
  · show W'.heap[k]? = _
    rw [hch'.block k (h.fin.lt hk) (by have := h.finb k arr hk; omega) (hfb k arr hk)]
    exact h.fin k arr hk
  · refine ⟨.slice none 0 0, .slice (some ⟨g, 0, none⟩) (σ.outer.length + 1) cap, rs ++ [vi], m4, (mm 5 (by omega) (by omega) (by omega) (by omega)).trans e5, ⟨[], trivial, World.ownsRow_nil _ _ _ _⟩, ?_, ?_, ?_⟩
    · rw [outCells_snoc hout.length]
      simp only [List.length_append, List.length_singleton]
      exact hown'.drew
    · exact OutOk.same (w := W') (OutOk.snoc (r := σ.inner) ⟨lcs, hlcs, owns_same hlown (blk vi (by simp))⟩ (hout.same (fun v hv => blk v (by simp [hv])))) (fun _ _ _ _ => rfl)
    · have hrest : ((vi :: rs).filterMap Value.ownBlock).Nodup ∧ ∀ b ∈ (vi :: rs).filterMap Value.ownBlock, H b = none ∧ b < w.heap.size ∧ some b ≠ vo.ownBlock := by
        refine ⟨?_, fun b hb' => ?_⟩
        · have hn := hap.1
          rw [List.filterMap_cons] at hn ⊢
          split at hn
          · rw [List.filterMap_cons] at hn
            split at hn
            · exact hn
            · exact (List.nodup_cons.1 hn).2
          · have hn1 := List.nodup_cons.1 hn
            rw [List.filterMap_cons] at hn1
            split at hn1
            · exact List.nodup_cons.2 hn1
            · exact List.nodup_cons.2 ⟨fun hm => hn1.1 (List.mem_cons_of_mem _ hm), (List.nodup_cons.1 hn1.2).2⟩
        · obtain ⟨v, hv, hk⟩ := List.mem_filterMap.1 hb'
          refine ⟨hap.2 b (mem_blocks (v := v) ?_ hk), (others v hv b hk).2, hperm v hv b hk⟩
          rcases List.mem_cons.1 hv with rfl | hv
          · simp
          · simp [hv]
      have hgn : g ∉ (vi :: rs).filterMap Value.ownBlock ∧ H g = none := by
        rcases hat with hat | hat
        · exact ⟨fun hm => (hrest.2 g hm).2.2 hat.symm, hap.2 g (mem_blocks (v := vo) (by simp) hat)⟩
        · exact ⟨fun hm => by have := (hrest.2 g hm).2.1; omega, h.fin.none hat⟩
      have hpm : (rs ++ [vi]).Perm (vi :: rs) := List.perm_append_singleton vi rs
      have hp2 := hpm.filterMap Value.ownBlock
      refine ⟨?_, ?_⟩
      · show ((.slice (some ⟨g, 0, none⟩) (σ.outer.length + 1) cap :: (rs ++ [vi])).filterMap Value.ownBlock).Nodup
        rw [List.filterMap_cons]
        exact List.nodup_cons.2 ⟨fun hm => hgn.1 (hp2.mem_iff.1 hm), hp2.nodup_iff.2 hrest.1⟩
      · intro b hb'
        have hb2 : b ∈ (Value.slice (some ⟨g, 0, none⟩) (σ.outer.length + 1) cap :: (rs ++ [vi])).filterMap Value.ownBlock := hb'
        rw [List.filterMap_cons] at hb2
        rcases List.mem_cons.1 hb2 with rfl | hb2
        · exact hgn.2
        · exact (hrest.2 b (hp2.mem_iff.1 hb2)).1

set_option maxHeartbeats 800000 in
theorem openGroup_no {w : World} {R gr : Nat} (h6 : w.cell? ⟨R, 6, none⟩ = some (.int .i64 gr)) (hgr : 9 ≤ gr) (hg2 : gr ≤ 1000) :
    Calls Tryd.prog 77 #[.pointer (some ⟨R, 0, none⟩)] w fun e w' => e = .returned (.int .i64 9) ∧ w' = w := by
  go_enter Tryd.func77, Tryd.ntmps77
  go_wp2
  go_ret
  exact ⟨rfl, rfl⟩

/-- OPENGROUP, of a reader. -/
theorem openGroup_rd {w : World} {base R : Nat} {s : ByteArray} {H : Fins} {σ : St} (h : Rd w base R s H σ) (hp : σ.pos ≤ 1000) (hn : σ.outer.length ≤ 1000) (hgr : σ.groups < 9) :
    Calls Tryd.prog 77 #[.pointer (some ⟨R, 0, none⟩)] w fun e w' => e = .returned (.int .i64 0) ∧
      Rd w' base R s H { σ with pos := σ.pos + 2, inner := ⟨σ.groups + 1, σ.pos, []⟩, outer := σ.outer ++ [σ.inner], groups := σ.groups + 1 } ∧ Below R w w' := by
  obtain ⟨vi, vo, rs, h4, h5, hlive, ho, hout, hap⟩ := h.rows
  obtain ⟨ia, ic, hvi⟩ := hlive.shape
  have hvo : ∃ ao cp, vo = .slice ao σ.outer.length cp := by
    rcases ho.2 with ⟨rfl, h0⟩ | ⟨g, cap, _, rfl, _⟩
    · exact ⟨none, 0, by rw [h0]⟩
    · exact ⟨_, _, rfl⟩
  obtain ⟨ao, cp, rfl⟩ := hvo
  rw [hvi] at h4
  refine (openGroup_walk R σ.outer.length cp base σ.inner.number σ.inner.start σ.pos σ.groups ao ia σ.inner.items.length ic (outCells σ.outer rs) w h.c1 h.c2 h.c3 h4 h5 h.c6 h.fz hp hgr ho h.hb hn h.hR).mono ?_
  rintro e w' ⟨rfl, W, hM, rfl⟩
  rw [← hvi] at hM
  exact ⟨rfl, h.opened hlive ho hout hap hM⟩
end Go.Proofs.YtldiemjlpnachaaDoor
