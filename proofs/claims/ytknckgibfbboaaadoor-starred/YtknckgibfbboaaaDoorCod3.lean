import Derived.Test.YtknckgibfbboaaaDoorCod2
namespace Go.Proofs.YtknckgibfbboaaaDoor
open Go.RowKit

theorem owns_index {w : World} {base e size g n cap : Nat} {xs : List Value} (h : w.ownsRow base e size (.slice (some ⟨g, 0, none⟩) n cap) n xs) (j : Nat) (hj : j < n * size) : ∃ z, w.cell? ⟨g, j, none⟩ = some z ∧ w.frozen? ⟨g, j, none⟩ = false := by
  obtain ⟨cur, _, hg, _, _, _, hl, ht⟩ := owns_cells h
  obtain ⟨v, hv⟩ : ∃ v, xs[j]? = some v := ⟨xs[j]'(by omega), List.getElem?_eq_getElem _⟩
  exact ⟨v, owns_cell h j v hv, by simp [World.frozen?, hg]⟩
theorem set_flat {α : Type} (m : Nat) : ∀ (css : List (List α)) (i j : Nat) (c : List α) (v : α), (∀ c ∈ css, c.length = m) → css[i]? = some c → j < m → css.flatten.set (i * m + j) v = (css.set i (c.set j v)).flatten
  | [], i, j, c, v, _, h, _ => by simp at h
  | x :: r, 0, j, c, v, hl, h, hj => by
    simp at h
    subst h
    rw [Nat.zero_mul, Nat.zero_add, List.flatten_cons, List.set_append_left _ _ (by rw [hl x (by simp)]; exact hj), List.set_cons_zero, List.flatten_cons]
  | x :: r, i + 1, j, c, v, hl, h, hj => by
    have hx := hl x (by simp)
    rw [List.flatten_cons, List.set_append_right _ _ (by rw [hx, Nat.add_mul]; omega), hx, show (i + 1) * m + j - m = i * m + j by rw [Nat.add_mul]; omega, List.set_cons_succ, List.flatten_cons, set_flat m r i j c v (fun y hy => hl y (by simp [hy])) (by simpa using h) hj]
/-- one cell of a row that is owned is written anew -/
theorem owns_set1 {w : World} {base e size g n cap j : Nat} {xs : List Value} (h : w.ownsRow base e size (.slice (some ⟨g, 0, none⟩) n cap) n xs) (hj : j < xs.length) (v : Value) :
    (w.setCell ⟨g, j, none⟩ v).ownsRow base e size (.slice (some ⟨g, 0, none⟩) n cap) n (xs.set j v) := by
  have e : xs = xs.take j ++ [xs[j]] ++ xs.drop (j + 1) := by simp
  rw [e] at h
  have := owns_store (ps := xs.take j) (zs := [xs[j]]) (bs := xs.drop (j + 1)) (cs := [v]) (k := j) h (by simp; omega) rfl
  have e2 : xs.set j v = xs.take j ++ [v] ++ xs.drop (j + 1) := by
    rw [List.set_eq_take_append_cons_drop, if_pos hj]
    simp
  rw [e2]
  exact this
theorem StpsOk.set {css : List (List Value)} {cs : List Stp} {i : Nat} {c : List Value} {st : Stp} (h : StpsOk css cs) (hc : StpOk c st) : StpsOk (css.set i c) (cs.set i st) := by
  refine ⟨by simp [h.1], fun k c' st' h1 h2 => ?_⟩
  by_cases e : i = k
  · subst e
    have hi : i < css.length := by have := (List.getElem?_eq_some_iff.1 h1).1; simpa using this
    rw [List.getElem?_set_self hi] at h1
    rw [List.getElem?_set_self (by rw [← h.1]; exact hi)] at h2
    cases h1; cases h2
    exact hc
  · rw [List.getElem?_set_ne e] at h1 h2
    exact h.2 k c' st' h1 h2

theorem CodeAt.patch {w : World} {base C gs cap e ee next : Nat} {cs : List Stp} {css : List (List Value)} (h : CodeAt w base C cs) (h4 : w.cell? ⟨C, 0, none⟩ = some (.slice (some ⟨gs, 0, none⟩) cs.length cap)) (hgb : base ≤ gs)
    (hown : w.ownsRow base 107 11 (.slice (some ⟨gs, 0, none⟩) cs.length cap) cs.length css.flatten) (hcs : StpsOk css cs) (he : cs[e]? = some (.fork 0 next)) :
    CodeAt (w.setCell ⟨gs, e * 11 + 9, none⟩ (.int .i64 ee)) base C (cs.set e (.fork ee next)) := by
  have hC := h.hC
  have hel : e < cs.length := (List.getElem?_eq_some_iff.1 he).1
  have hec : e < css.length := by rw [hcs.1]; exact hel
  have hc := hcs.2 e css[e] _ (List.getElem?_eq_getElem hec) he
  obtain ⟨u, hu⟩ := h.c1
  refine ⟨hC, by simp [World.setCell]; exact h.hb, by rw [World.frozen?_setCell]; exact h.f0, by rw [World.frozen?_setCell]; exact h.f1, ⟨u, by rw [World.cell?_setCell_far _ _ _ _ (by show gs ≠ C; omega)]; exact hu⟩, _, css.set e (css[e].set 9 (.int .i64 ee)), by rw [World.cell?_setCell_far _ _ _ _ (by show gs ≠ C; omega)]; exact h4, ?_, hcs.set ?_⟩
  · have hfl := flat_len 11 css hcs.lens
    have := owns_set1 hown (j := e * 11 + 9) (by rw [hfl]; omega) (.int .i64 ee)
    rw [set_flat 11 css e 9 css[e] (.int .i64 ee) hcs.lens (List.getElem?_eq_getElem hec) (by omega)] at this
    simpa using this
  · have e1 : css[e] = stepCells 4 (fun _ => 0) 0 next := hc
    rw [e1]
    rfl

set_option maxHeartbeats 1600000 in
theorem cloop_any (H : Fins) (d : Nat) (hI : ItemBuilt H d) (w : World) (base C : Nat) (cs : List Stp) (g o : Nat) (ra : Option Addr) (rn rc next : Nat) (x : It) (hF : Fin w H) (hHC : ∀ g arr, H g = some arr → g < C) (hc : CodeAt w base C cs) (hgC : g < C)
    (h12 : w.cell? ⟨g, o + 12, none⟩ = some (.slice ra rn rc)) (hR : RowFin (ItemOk H d) H ra rn [x]) (hlen : (loopC (fun n c => itemC x.3 n c) next cs).1.length ≤ 1000) :
    Calls Tryd.prog 77 #[.pointer (some ⟨C, 0, none⟩), .pointer (some ⟨g, o, none⟩), .int .i64 next] w fun e w' => e = .returned (.int .i64 (loopC (fun n c => itemC x.3 n c) next cs).2) ∧ CodeAt w' base C (loopC (fun n c => itemC x.3 n c) next cs).1 ∧ Below C w w' := by
  simp only [loopC] at hlen ⊢
  simp only [List.length_set] at hlen
  have hl1 := itemC_len x.3 cs.length (cs ++ [.fork 0 next])
  simp only [List.length_append, List.length_singleton] at hl1
  have Hput := hd (put_c hc (by omega) 4 0 0 0 0 0 0 0 0 0 next (.fork 0 next) rfl)
  have Hrow := hd (fun w1 (hF1 : Fin w1 H) (hc1 : CodeAt w1 base C (cs ++ [.fork 0 next])) => crow_any H d hI w1 base C (cs ++ [.fork 0 next]) ra rn rc cs.length [x] hF1 hHC hc1 hR (by simp only [List.map_cons, List.map_nil, rowC]; exact hlen))
  simp only [List.map_cons, List.map_nil, rowC] at Hrow
  obtain ⟨ll, ee, hre⟩ : ∃ ll ee, itemC x.3 cs.length (cs ++ [.fork 0 next]) = (ll, ee) := ⟨_, _, rfl⟩
  have hpre := (frag_item [] x.3 cs.length (cs ++ [.fork 0 next])).pre cs.length (by simp)
  simp only at hpre
  rw [hre] at Hrow hlen hl1 hpre ⊢
  simp only at Hrow hlen hl1 hpre ⊢
  rw [List.getElem?_append_right (Nat.le_refl _)] at hpre
  simp at hpre
  have HF := hd hF
  have HC := hd hHC
  have Hpre := hd hpre
  clear hF hHC hI hR hc hre hpre
  go_enter Tryd.func77, Tryd.ntmps77
  go_wp2_with fail
  refine Hput.out.mono ?_
  rintro e w1 ⟨rfl, hc1, hb1⟩
  have Hc1 := hd (Hrow.out w1 (HF.out.below HC.out hb1) hc1)
  have g12 : w1.cell? ⟨g, o + 12, none⟩ = some (.slice ra rn rc) := (hb1.cell (by exact hgC)).trans h12
  have Hb1 := hd hb1
  clear hb1 h12 hc1
  go_wp2_with fail
  refine Hc1.out.mono ?_
  rintro e w2 ⟨rfl, hc2, hb2⟩
  obtain ⟨v, css, h4, hown, hcs⟩ := hc2.rows
  obtain ⟨gs, cap, rfl, hgb, hgl⟩ := hown.form (by omega)
  obtain ⟨z, hz, hzf⟩ := owns_index hown (cs.length * 11 + 9) (by omega)
  have hi0 : (0 : Int) ≤ (cs.length : Int) := by omega
  have hi1 : (cs.length : Int) < (ll.length : Int) := by omega
  have Hc2 := hd hc2
  have Hown := hd hown
  have Hcs := hd hcs
  have Hb2 := hd (Hb1.out.trans hb2)
  clear hc2 hown hcs hb2 g12
  go_wp2
  go_ret
  exact ⟨rfl, Hc2.out.patch h4 hgb Hown.out Hcs.out Hpre.out, Hb2.out.setCell (by have := Hc2.out.hC; show C ≤ gs; omega) _⟩

theorem forksC_mono {g : Nat → List Stp → List Stp × Nat} (hg : ∀ n c, c.length ≤ (g n c).1.length) (n e : Nat) (c : List Stp) : ∀ t k, (forksC g n t e c).1.length ≤ (forksC g n (t + k) e c).1.length
  | t, 0 => Nat.le_refl _
  | t, k + 1 => by
    refine Nat.le_trans (forksC_mono hg n e c t k) ?_
    rw [← Nat.add_assoc, forksC]
    simp only [List.length_append, List.length_singleton]
    have := hg (forksC g n (t + k) e c).2 (forksC g n (t + k) e c).1
    omega
theorem copiesC_mono {g : Nat → List Stp → List Stp × Nat} (hg : ∀ n c, c.length ≤ (g n c).1.length) (e : Nat) (c : List Stp) : ∀ t k, (copiesC g t e c).1.length ≤ (copiesC g (t + k) e c).1.length
  | t, 0 => Nat.le_refl _
  | t, k + 1 => by
    refine Nat.le_trans (copiesC_mono hg e c t k) ?_
    rw [← Nat.add_assoc, copiesC]
    exact hg _ _
theorem repC_eq (g : Nat → List Stp → List Stp × Nat) (a b : Int) (ha : 0 ≤ a) (n : Nat) (c c1 : List Stp) (e1 : Nat) (h1 : (if b = -1 then loopC g n c else (c, n)) = (c1, e1)) :
    repC g a b n c = copiesC g a.toNat (forksC g n (b - a).toNat e1 c1).2 (forksC g n (b - a).toNat e1 c1).1 := by
  unfold repC
  by_cases hb : b = -1
  · rw [if_pos hb] at h1 ⊢
    have : (b - a).toNat = 0 := by omega
    rw [this, forksC, h1]
  · rw [if_neg hb] at h1 ⊢
    cases h1
    rfl

set_option maxHeartbeats 3200000 in
theorem crep_any (H : Fins) (d : Nat) (hI : ItemBuilt H d) (w : World) (base C : Nat) (cs : List Stp) (g o : Nat) (least most : Int) (ra : Option Addr) (rn rc next : Nat) (x : It) (hF : Fin w H) (hHC : ∀ g arr, H g = some arr → g < C) (hc : CodeAt w base C cs) (hgC : g < C)
    (h10 : w.cell? ⟨g, o + 10, none⟩ = some (.int .i64 least)) (h11 : w.cell? ⟨g, o + 11, none⟩ = some (.int .i64 most)) (h12 : w.cell? ⟨g, o + 12, none⟩ = some (.slice ra rn rc)) (hl : 0 ≤ least ∧ least ≤ 20) (hm : -1 ≤ most ∧ most ≤ 20)
    (hR : RowFin (ItemOk H d) H ra rn [x]) (r : List Stp × Nat) (hr : repC (fun n c => itemC x.3 n c) least most next cs = r) (hlen : r.1.length ≤ 1000) :
    Calls Tryd.prog 71 #[.pointer (some ⟨C, 0, none⟩), .pointer (some ⟨g, o, none⟩), .int .i64 next] w fun e w' => e = .returned (.int .i64 r.2) ∧ CodeAt w' base C r.1 ∧ Below C w w' := by
  obtain ⟨c1, e1, h1⟩ : ∃ c1 e1, (if most = -1 then loopC (fun n c => itemC x.3 n c) next cs else (cs, next)) = (c1, e1) := ⟨_, _, rfl⟩
  rw [repC_eq _ _ _ hl.1 _ _ c1 e1 h1] at hr
  have hg : ∀ n c, c.length ≤ ((fun n c => itemC x.3 n c) n c).1.length := fun n c => itemC_len x.3 n c
  obtain ⟨c2, e2, h2⟩ : ∃ c2 e2, forksC (fun n c => itemC x.3 n c) next (most - least).toNat e1 c1 = (c2, e2) := ⟨_, _, rfl⟩
  rw [h2] at hr
  simp only at hr
  have hln2 : ∀ t, t ≤ least.toNat → (copiesC (fun n c => itemC x.3 n c) t e2 c2).1.length ≤ 1000 := fun t ht => by
    have := copiesC_mono hg e2 c2 t (least.toNat - t)
    rw [show t + (least.toNat - t) = least.toNat by omega, hr] at this
    omega
  have hln1 : ∀ t, t ≤ (most - least).toNat → (forksC (fun n c => itemC x.3 n c) next t e1 c1).1.length ≤ 1000 := fun t ht => by
    have := forksC_mono hg next e1 c1 t ((most - least).toNat - t)
    rw [show t + ((most - least).toNat - t) = (most - least).toNat by omega, h2] at this
    have h0 := hln2 0 (by omega)
    rw [copiesC] at h0
    omega
  have Hrow := hd (fun w1 cc nn (hF1 : Fin w1 H) (hc1 : CodeAt w1 base C cc) (hl1 : (itemC x.3 nn cc).1.length ≤ 1000) => crow_any H d hI w1 base C cc ra rn rc nn [x] hF1 hHC hc1 hR (by simp only [List.map_cons, List.map_nil, rowC]; exact hl1))
  simp only [List.map_cons, List.map_nil, rowC] at Hrow
  have Hloop := hd (fun hmo : most = -1 => cloop_any H d hI w base C cs g o ra rn rc next x hF hHC hc hgC h12 hR (by
    rw [if_pos hmo] at h1
    rw [h1]
    exact hln1 0 (by omega)))
  have HF := hd hF
  have HC := hd hHC
  have H1 := hd h1
  have H2 := hd h2
  have Hr := hd hr
  have Hln1 := hd hln1
  have Hln2 := hd hln2
  have h0 := hln1 0 (by omega)
  rw [forksC] at h0
  -- what the loops do, from the state behind the first step on
  have cellsOf' : ∀ wr, Below C w wr → wr.cell? ⟨g, o + 10, none⟩ = some (.int .i64 least) ∧ wr.cell? ⟨g, o + 11, none⟩ = some (.int .i64 most) ∧ wr.cell? ⟨g, o + 12, none⟩ = some (.slice ra rn rc) := fun _ hb => ⟨(hb.cell (by exact hgC)).trans h10, (hb.cell (by exact hgC)).trans h11, (hb.cell (by exact hgC)).trans h12⟩
  have Hcells := hd cellsOf'
  clear cellsOf' hF hHC hI hR h1 h2 hr hln1 hln2 hg h0
  by_cases hmo : most = -1
  · have hL := Hloop.out hmo
    have e0 := H1.out
    rw [if_pos hmo] at e0
    rw [e0] at hL
    simp only at hL
    have HL := hd hL
    clear hL e0
    subst hmo
    go_enter Tryd.func71, Tryd.ntmps71
    go_wp2_with fail
    refine HL.out.mono ?_
    rintro e W ⟨rfl, hcW, hbW⟩
    have HbW := hd hbW
    obtain ⟨g10, g11, g12⟩ := Hcells.out W HbW.out
    clear hbW h10 h11 h12
    go_wp2
    clear g10 g11 g12
    go_loopw [7, 8] (fun en k wr => ∃ (t : Nat) (ll : List Stp) (ee : Nat), k = .int .i64 (least + t) ∧ en = .int .i64 ee ∧ t ≤ ((-1) - least).toNat ∧ CodeAt wr base C ll ∧ Hid (Below C w wr) ∧ Hid (forksC (fun n c => itemC x.3 n c) next t e1 c1 = (ll, ee))) (fun _ k _ => ((-1) - intOf k).toNat)
    case atStart => exact ⟨0, c1, e1, by go_num, rfl, Nat.zero_le _, hcW, HbW, hd rfl⟩
    case round =>
      obtain ⟨t, ll, ee, rfl, rfl, ht, hcr, Hb, Hfk⟩ := hrel
      obtain ⟨g10, g11, g12⟩ := Hcells.out wr Hb.out
      by_cases hlt : least + t < (-1)
      · omega
      · have hte : ((-1) - least).toNat = t := by omega
        have H2' : Hid (ll = c2 ∧ ee = e2) := by
          have e0 := H2.out
          rw [hte, Hfk.out] at e0
          exact hd (by simpa using e0)
        obtain ⟨rfl, rfl⟩ := H2'.out
        go_wp2
        go_loopw [7, 10] (fun en k wr => ∃ (t : Nat) (l3 : List Stp) (e3 : Nat), k = .int .i64 t ∧ en = .int .i64 e3 ∧ t ≤ least.toNat ∧ CodeAt wr base C l3 ∧ Hid (Below C w wr) ∧ Hid (copiesC (fun n c => itemC x.3 n c) t ee ll = (l3, e3))) (fun _ k _ => (least - intOf k).toNat)
        case atStart => exact ⟨0, ll, ee, rfl, rfl, Nat.zero_le _, hcr, Hb, hd rfl⟩
        case round =>
          clear g10 g11 g12 hcr Hb
          obtain ⟨t2, l3, e3, rfl, rfl, ht2, hcr, Hb, Hcp⟩ := hrel
          obtain ⟨g10, g11, g12⟩ := Hcells.out wr Hb.out
          by_cases hlt2 : (t2 : Int) < least
          · obtain ⟨l4, e4, hg⟩ : ∃ l4 e4, itemC x.3 e3 l3 = (l4, e4) := ⟨_, _, rfl⟩
            have hnx : copiesC (fun n c => itemC x.3 n c) (t2 + 1) ee ll = (l4, e4) := by
              rw [copiesC, Hcp.out]
              exact hg
            have hl2 := Hln2.out (t2 + 1) (by omega)
            rw [hnx] at hl2
            have Hc1 := hd (Hrow.out wr l3 e3 (HF.out.below HC.out Hb.out) hcr (by rw [hg]; exact hl2))
            rw [hg] at Hc1
            simp only at Hc1
            have Hnx := hd hnx
            clear hnx hg hcr
            go_wp2_with fail
            refine Hc1.out.mono ?_
            rintro e w1 ⟨rfl, hc1, hb1⟩
            go_wp2
            go_roundw
            case rel => exact ⟨t2 + 1, l4, e4, by go_num, rfl, by omega, hc1, hd (Hb.out.trans hb1), Hnx⟩
            case measure => simp [intOf]; omega
          · have hte2 : least.toNat = t2 := by omega
            go_wp2
            go_ret
            have e0 := Hr.out
            rw [hte2, Hcp.out] at e0
            rw [← e0]
            exact ⟨rfl, hcr, Hb.out⟩
  · have e0 := H1.out
    rw [if_neg hmo] at e0
    simp only [Prod.mk.injEq] at e0
    obtain ⟨rfl, rfl⟩ := e0
    have hmb : (most == -1) = false := by simpa using hmo
    clear hmo
    go_enter Tryd.func71, Tryd.ntmps71
    have hcW := hc
    have HbW := hd (Below.refl C w)
    go_wp2
    clear h10 h11 h12 hc
    go_loopw [7, 8] (fun en k wr => ∃ (t : Nat) (ll : List Stp) (ee : Nat), k = .int .i64 (least + t) ∧ en = .int .i64 ee ∧ t ≤ (most - least).toNat ∧ CodeAt wr base C ll ∧ Hid (Below C w wr) ∧ Hid (forksC (fun n c => itemC x.3 n c) next t next cs = (ll, ee))) (fun _ k _ => (most - intOf k).toNat)
    case atStart => exact ⟨0, cs, next, by go_num, rfl, Nat.zero_le _, hcW, HbW, hd rfl⟩
    case round =>
      obtain ⟨t, ll, ee, rfl, rfl, ht, hcr, Hb, Hfk⟩ := hrel
      obtain ⟨g10, g11, g12⟩ := Hcells.out wr Hb.out
      by_cases hlt : least + t < most
      · obtain ⟨l2, ee2, hg⟩ : ∃ l2 ee2, itemC x.3 ee ll = (l2, ee2) := ⟨_, _, rfl⟩
        have hnx : forksC (fun n c => itemC x.3 n c) next (t + 1) next cs = (l2 ++ [.fork ee2 next], l2.length) := by
          rw [forksC, Hfk.out]
          simp only [hg]
        have hl2 := Hln1.out (t + 1) (by omega)
        rw [hnx] at hl2
        simp only [List.length_append, List.length_singleton] at hl2
        have Hc1 := hd (Hrow.out wr ll ee (HF.out.below HC.out Hb.out) hcr (by rw [hg]; show l2.length ≤ 1000; omega))
        rw [hg] at Hc1
        simp only at Hc1
        have Hnx := hd hnx
        clear hnx hg hcr
        go_wp2_with fail
        refine Hc1.out.mono ?_
        rintro e w1 ⟨rfl, hc1, hb1⟩
        have Hp := hd (put_c hc1 (by omega) 4 0 0 0 0 0 0 0 0 ee2 next (.fork ee2 next) rfl)
        have Hb1 := hd (Hb.out.trans hb1)
        clear hc1 hb1 g10 g11 g12
        go_wp2_with fail
        refine Hp.out.mono ?_
        rintro e w2 ⟨rfl, hc2, hb2⟩
        go_wp2
        go_roundw
        case rel => exact ⟨t + 1, _, l2.length, by go_num, rfl, by omega, hc2, hd (Hb1.out.trans hb2), Hnx⟩
        case measure => simp [intOf]; omega
      · have hte : (most - least).toNat = t := by omega
        have H2' : Hid (ll = c2 ∧ ee = e2) := by
          have e0 := H2.out
          rw [hte, Hfk.out] at e0
          exact hd (by simpa using e0)
        obtain ⟨rfl, rfl⟩ := H2'.out
        go_wp2
        go_loopw [7, 10] (fun en k wr => ∃ (t : Nat) (l3 : List Stp) (e3 : Nat), k = .int .i64 t ∧ en = .int .i64 e3 ∧ t ≤ least.toNat ∧ CodeAt wr base C l3 ∧ Hid (Below C w wr) ∧ Hid (copiesC (fun n c => itemC x.3 n c) t ee ll = (l3, e3))) (fun _ k _ => (least - intOf k).toNat)
        case atStart => exact ⟨0, ll, ee, rfl, rfl, Nat.zero_le _, hcr, Hb, hd rfl⟩
        case round =>
          clear g10 g11 g12 hcr Hb
          obtain ⟨t2, l3, e3, rfl, rfl, ht2, hcr, Hb, Hcp⟩ := hrel
          obtain ⟨g10, g11, g12⟩ := Hcells.out wr Hb.out
          by_cases hlt2 : (t2 : Int) < least
          · obtain ⟨l4, e4, hg⟩ : ∃ l4 e4, itemC x.3 e3 l3 = (l4, e4) := ⟨_, _, rfl⟩
            have hnx : copiesC (fun n c => itemC x.3 n c) (t2 + 1) ee ll = (l4, e4) := by
              rw [copiesC, Hcp.out]
              exact hg
            have hl2 := Hln2.out (t2 + 1) (by omega)
            rw [hnx] at hl2
            have Hc1 := hd (Hrow.out wr l3 e3 (HF.out.below HC.out Hb.out) hcr (by rw [hg]; exact hl2))
            rw [hg] at Hc1
            simp only at Hc1
            have Hnx := hd hnx
            clear hnx hg hcr
            go_wp2_with fail
            refine Hc1.out.mono ?_
            rintro e w1 ⟨rfl, hc1, hb1⟩
            go_wp2
            go_roundw
            case rel => exact ⟨t2 + 1, l4, e4, by go_num, rfl, by omega, hc1, hd (Hb.out.trans hb1), Hnx⟩
            case measure => simp [intOf]; omega
          · have hte2 : least.toNat = t2 := by omega
            go_wp2
            go_ret
            have e0 := Hr.out
            rw [hte2, Hcp.out] at e0
            rw [← e0]
            exact ⟨rfl, hcr, Hb.out⟩
end Go.Proofs.YtknckgibfbboaaaDoor
