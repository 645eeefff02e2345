import Derived.Test.YtldiemjlpnachaaDoorCod
namespace Go.Proofs.YtldiemjlpnachaaDoor
open Go.RowKit

theorem owns_index {w : World} {base e size g n cap : Nat} {xs : List Value} (h : w.ownsRow base e size (.slice (some ⟨g, 0, none⟩) n cap) n xs) (j : Nat) (hj : j < n * size) : ∃ z, w.cell? ⟨g, j, none⟩ = some z ∧ w.frozen? ⟨g, j, none⟩ = false := by
  obtain ⟨cur, _, hg, _, _, _, hl, ht⟩ := owns_cells h
  obtain ⟨v, hv⟩ : ∃ v, xs[j]? = some v := ⟨xs[j]'(by omega), List.getElem?_eq_getElem _⟩
  exact ⟨v, owns_cell h j v hv, by simp [World.frozen?, hg]⟩
theorem set_flat {α : Type} (m : Nat) : ∀ (css : List (List α)) (i j : Nat) (c : List α) (v : α), (∀ c ∈ css, c.length = m) → css[i]? = some c → j < m → css.flatten.set (i * m + j) v = (css.set i (c.set j v)).flatten
  | [], i, j, c, v, _, h, _ => by simp at h
  | x :: r, 0, j, c, v, hl, h, hj => by
    simp at h
    subst h
    rw [Nat.zero_mul, Nat.zero_add, List.flatten_cons, List.set_append_left _ _ (by rw [hl x (by simp)]; exact hj), List.set_cons_zero, List.flatten_cons]
  | x :: r, i + 1, j, c, v, hl, h, hj => by
    have hx := hl x (by simp)
    rw [List.flatten_cons, List.set_append_right _ _ (by rw [hx, Nat.add_mul]; omega), hx, show (i + 1) * m + j - m = i * m + j by rw [Nat.add_mul]; omega, List.set_cons_succ, List.flatten_cons, set_flat m r i j c v (fun y hy => hl y (by simp [hy])) (by simpa using h) hj]
/-- one cell of a row that is owned is written anew -/
theorem owns_set1 {w : World} {base e size g n cap j : Nat} {xs : List Value} (h : w.ownsRow base e size (.slice (some ⟨g, 0, none⟩) n cap) n xs) (hj : j < xs.length) (v : Value) :
    (w.setCell ⟨g, j, none⟩ v).ownsRow base e size (.slice (some ⟨g, 0, none⟩) n cap) n (xs.set j v) := by
  have e : xs = xs.take j ++ [xs[j]] ++ xs.drop (j + 1) := by simp
  rw [e] at h
  have := owns_store (ps := xs.take j) (zs := [xs[j]]) (bs := xs.drop (j + 1)) (cs := [v]) (k := j) h (by simp; omega) rfl
  have e2 : xs.set j v = xs.take j ++ [v] ++ xs.drop (j + 1) := by
    rw [List.set_eq_take_append_cons_drop, if_pos hj]
    simp
  rw [e2]
  exact this
theorem Fin.below {w w' : World} {H : Fins} {C : Nat} (h : Fin w H) (hC : ∀ g arr, H g = some arr → g < C) (hb : Below C w w') : Fin w' H := fun g arr hg => by
  rw [hb.block g (hC g arr hg)]
  exact h g arr hg
/-- what item does, at depth dp of the tree -/
def ItemBuilt (rf : List Nat) (vr : Value) (H : Fins) (dp : Nat) : Prop := ∀ (w : World) (base C d : Nat) (cs : List Sd) (g o : Nat) (cells : List Value) (it : It) (next : Nat), Fin w H → (∀ g arr, H g = some arr → g < C) → CodeAt w base C rf vr d cs → g < C → (∀ j v, cells[j]? = some v → w.cell? ⟨g, o + j, none⟩ = some v) → ItemOk H dp cells it →
    bks rf it.3 → it.2 ≤ 200 → (d : Int) + it.2 ≤ 300 → (itemD rf it.3 d next cs).1.length ≤ 1000 →
    Calls Tryd.prog 70 #[.pointer (some ⟨C, 0, none⟩), .pointer (some ⟨g, o, none⟩), .int .i64 next] w fun e w' => e = .returned (.int .i64 (itemD rf it.3 d next cs).2) ∧ CodeAt w' base C rf vr d (itemD rf it.3 d next cs).1 ∧ Below C w w'
/-- what repeat does, of a repeated item -/
def RepBuilt (rf : List Nat) (vr : Value) (H : Fins) (dp : Nat) : Prop := ∀ (w : World) (base C d : Nat) (cs : List Sd) (g o : Nat) (cells : List Value) (it : It) (next : Nat), Fin w H → (∀ g arr, H g = some arr → g < C) → CodeAt w base C rf vr d cs → g < C → (∀ j v, cells[j]? = some v → w.cell? ⟨g, o + j, none⟩ = some v) → ItemOk H dp cells it → it.1 = 5 →
    bks rf it.3 → it.2 ≤ 200 → (d : Int) + it.2 ≤ 300 → (itemD rf it.3 d next cs).1.length ≤ 1000 →
    Calls Tryd.prog 88 #[.pointer (some ⟨C, 0, none⟩), .pointer (some ⟨g, o, none⟩), .int .i64 next] w fun e w' => e = .returned (.int .i64 (itemD rf it.3 d next cs).2) ∧ CodeAt w' base C rf vr d (itemD rf it.3 d next cs).1 ∧ Below C w w'
theorem rowD_drop (rf : List Nat) (r : List Tr) (d n : Nat) (c : List Sd) : ∀ k, (rowD rf (r.drop k) d n c).1.length ≤ (rowD rf r d n c).1.length
  | 0 => by simp
  | k + 1 => by
    refine Nat.le_trans ?_ (rowD_drop rf r d n c k)
    rcases Nat.lt_or_ge k r.length with h | h
    · rw [List.drop_eq_getElem_cons h, rowD]
      exact itemD_len _ _ _ _ _
    · rw [List.drop_eq_nil_of_le h, List.drop_eq_nil_of_le (by omega)]
      exact Nat.le_refl _

set_option maxHeartbeats 1600000 in
theorem crow_any {rf : List Nat} {vr : Value} (H : Fins) (dp : Nat) (hI : ItemBuilt rf vr H dp) (w : World) (base C d : Nat) (cs : List Sd) (ra : Option Addr) (rn rc next : Nat) (its : List It) (hF : Fin w H) (hHC : ∀ g arr, H g = some arr → g < C) (hc : CodeAt w base C rf vr d cs) (hR : RowFin (ItemOk H dp) H ra rn its)
    (hbk : bkss rf (its.map (·.3))) (hsz : ∀ x ∈ its, x.2 ≤ 200 ∧ (d : Int) + x.2 ≤ 300) (hlen : (rowD rf (its.map (·.3)) d next cs).1.length ≤ 1000) :
    Calls Tryd.prog 48 #[.pointer (some ⟨C, 0, none⟩), .slice ra rn rc, .int .i64 next] w fun e w' => e = .returned (.int .i64 (rowD rf (its.map (·.3)) d next cs).2) ∧ CodeAt w' base C rf vr d (rowD rf (its.map (·.3)) d next cs).1 ∧ Below C w w' := by
  obtain ⟨hln, hrn, hrow⟩ := hR
  have HI := hd hI
  have HF := hd hF
  have HC := hd hHC
  have Hrow := hd hrow
  have Hln := hd hln
  have Hlen := hd hlen
  have Hbk := hd hbk
  have Hsz := hd hsz
  clear hrow hln hI hF hHC hlen hbk hsz
  go_enter Tryd.func48, Tryd.ntmps48
  go_wp2
  go_loopw [7, 8] (fun en i wr => ∃ (k : Nat) (ee : Nat) (ll : List Sd), i = .int .i64 ((k : Int) - 1) ∧ en = .int .i64 ee ∧ k ≤ rn ∧ CodeAt wr base C rf vr d ll ∧ Hid (Below C w wr) ∧ Hid (rowD rf ((its.map (·.3)).drop k) d next cs = (ll, ee))) (fun _ i _ => (intOf i + 1).toNat)
  case atStart => exact ⟨rn, next, cs, rfl, rfl, Nat.le_refl _, hc, hd (Below.refl _ _), hd (by rw [List.drop_eq_nil_of_le (by rw [List.length_map, Hln.out]; exact Nat.le_refl _), rowD])⟩
  case round =>
    obtain ⟨k, ee, ll, rfl, rfl, hk, hcr, Hb, Hrc⟩ := hrel
    rcases Nat.eq_zero_or_pos k with h0 | h0
    · subst h0
      go_wp2
      go_ret
      have e := Hrc.out
      rw [List.drop_zero] at e
      rw [e]
      exact ⟨rfl, hcr, Hb.out⟩
    · obtain ⟨m, rfl⟩ : ∃ m, k = m + 1 := ⟨k - 1, by omega⟩
      obtain ⟨g, arr, hra, hg, hP⟩ : ∃ g arr, ra = some ⟨g, 0, none⟩ ∧ H g = some arr ∧ ∀ i (h : i < its.length), ItemOk H dp (itemAt arr i) its[i] := by
        rcases Hrow.out with h | h
        · omega
        · exact h
      subst hra
      have hml : m < its.length := by rw [Hln.out]; omega
      have hF' := HF.out.below HC.out Hb.out
      have hstep : rowD rf ((its.map (·.3)).drop m) d next cs = itemD rf its[m].3 d ee ll := by
        rw [List.drop_eq_getElem_cons (by rw [List.length_map]; exact hml), rowD, Hrc.out, List.getElem_map]
      have hlm := rowD_drop rf (its.map (·.3)) d next cs m
      rw [hstep] at hlm
      have hbm : bks rf its[m].3 := bkss_iff.1 Hbk.out _ (List.mem_map.2 ⟨its[m], List.getElem_mem hml, rfl⟩)
      have hsm := Hsz.out its[m] (List.getElem_mem hml)
      have Hcall := hd (HI.out wr base C d ll g (m * 13) (itemAt arr m) its[m] ee hF' HC.out hcr (HC.out g arr hg) (fun j v hv => itemAt_cell (hF' g arr hg) m j v hv) (hP m hml) hbm hsm.1 hsm.2 (Nat.le_trans hlm Hlen.out))
      have Hstep := hd hstep
      obtain ⟨ll2, ee2, hre⟩ : ∃ ll2 ee2, itemD rf its[m].3 d ee ll = (ll2, ee2) := ⟨_, _, rfl⟩
      rw [hre] at Hstep Hcall
      have hm0 : (0 : Int) ≤ (m : Int) := by omega
      have hm1 : (m : Int) < (rn : Int) := by omega
      have hmm : ((m + 1 : Nat) : Int) - 1 = (m : Int) := by omega
      rw [hmm]
      clear hP hg hF' hstep hlm hre h0 hmm hcr hbm hsm
      go_wp2_with (go_at_call 70; refine Hcall.out.mono ?_; rintro e w' ⟨rfl, hc2, hb2⟩)
      go_roundw
      case rel => exact ⟨m, ee2, ll2, by go_num, rfl, by omega, hc2, hd (Hb.out.trans hb2), Hstep⟩
      case measure => simp [intOf]

theorem CodeAt.depth {w : World} {base C d : Nat} {rf : List Nat} {vr : Value} {cs : List Sd} (h : CodeAt w base C rf vr d cs) (d' : Nat) (hd' : d' ≤ 300) (v : Int) (hv : v = d') : CodeAt (w.setCell ⟨C, 5, none⟩ (.int .i64 v)) base C rf vr d' cs ∧ Below C w (w.setCell ⟨C, 5, none⟩ (.int .i64 v)) := by
  subst hv
  have hC := h.hC
  have hbl : Below C w (w.setCell ⟨C, 5, none⟩ (.int .i64 d')) := Below.setCell (Below.refl C w) (Nat.le_refl C) _
  have ne : ∀ j, j ≠ 5 → (w.setCell ⟨C, 5, none⟩ (.int .i64 d')).cell? ⟨C, j, none⟩ = w.cell? ⟨C, j, none⟩ := fun j hj => World.cell?_setCell_other _ _ _ _ (by rintro e; cases e; exact hj rfl)
  obtain ⟨v, css, h4, hown, hcs⟩ := h.rows
  obtain ⟨u, hu⟩ := h.c1
  refine ⟨⟨hC, by simp [World.setCell]; exact h.hb, fun i hi => by rw [World.frozen?_setCell]; exact h.fz i hi, ⟨u, (ne 1 (by omega)).trans hu⟩, (ne 2 (by omega)).trans h.c2, (ne 3 (by omega)).trans h.c3, (ne 4 (by omega)).trans h.c4, World.cell?_setCell_same _ _ _ h.c5, h.rf.below hbl, hd', h.dl, v, css, (ne 0 (by omega)).trans h4, ownsRow_setCell_other hown (fun e => ?_) _, hcs⟩, hbl⟩
  have := (hown.lt _ e).1
  simp at this
  omega

set_option maxHeartbeats 1600000 in
theorem cbey_any {rf : List Nat} {vr : Value} (H : Fins) (dp : Nat) (hI : ItemBuilt rf vr H dp) (w : World) (base C d : Nat) (cs : List Sd) (g o : Nat) (ra : Option Addr) (rn rc next : Nat) (x : It) (hF : Fin w H) (hHC : ∀ g arr, H g = some arr → g < C) (hc : CodeAt w base C rf vr d cs) (hgC : g < C)
    (h12 : w.cell? ⟨g, o + 12, none⟩ = some (.slice ra rn rc)) (hR : RowFin (ItemOk H dp) H ra rn [x]) (hbk : bks rf x.3) (hsz : x.2 ≤ 200 ∧ (d : Int) + 1 + x.2 ≤ 300) (hx0 : 0 ≤ x.2) (hlen : (beyD (rf.isEmpty || hasB x.3) (fun d n c => itemD rf x.3 d n c) d next cs).1.length ≤ 1000) :
    Calls Tryd.prog 100 #[.pointer (some ⟨C, 0, none⟩), .pointer (some ⟨g, o, none⟩), .int .i64 next] w fun e w' => e = .returned (.int .i64 (beyD (rf.isEmpty || hasB x.3) (fun d n c => itemD rf x.3 d n c) d next cs).2) ∧ CodeAt w' base C rf vr d (beyD (rf.isEmpty || hasB x.3) (fun d n c => itemD rf x.3 d n c) d next cs).1 ∧ Below C w w' := by
  have Hrow := hd (fun w1 dd cc nn (hF1 : Fin w1 H) (hc1 : CodeAt w1 base C rf vr dd cc) (hdd : (dd : Int) + x.2 ≤ 300) (hl1 : (itemD rf x.3 dd nn cc).1.length ≤ 1000) => crow_any H dp hI w1 base C dd cc ra rn rc nn [x] hF1 hHC hc1 hR (by simp only [List.map_cons, List.map_nil, bkss]; exact ⟨hbk, trivial⟩) (fun y hy => by simp at hy; subst hy; exact ⟨hsz.1, hdd⟩) (by simp only [List.map_cons, List.map_nil, rowD]; exact hl1))
  simp only [List.map_cons, List.map_nil, rowD] at Hrow
  have Hhas := hd (hasByte_any H dp w ra rn rc [x] hF hR)
  have e0 : hasBs ([x].map (·.3)) = hasB x.3 := by simp [hasBs]
  rw [e0] at Hhas
  have c2 := hc.c2
  have HF := hd hF
  have HC := hd hHC
  have hC := hc.hC
  clear e0 hF hHC hI hR hbk
  cases hrf : rf with
  | nil =>
    subst hrf
    simp only [beyD, List.isEmpty_nil, Bool.true_or, if_true] at hlen ⊢
    have Hc := hd (Hrow.out w d cs next HF.out hc (by omega) hlen)
    obtain ⟨ll, ee, hre⟩ : ∃ ll ee, itemD [] x.3 d next cs = (ll, ee) := ⟨_, _, rfl⟩
    rw [hre] at Hc ⊢
    simp only [List.length_nil] at c2
    clear hre hc hlen
    go_enter Tryd.func100, Tryd.ntmps100
    go_wp2_with (go_at_call 48; refine Hc.out.mono ?_; rintro e w' ⟨rfl, hc2, hb2⟩)
    go_ret
    exact ⟨rfl, hc2, hb2⟩
  | cons r0 rr =>
    rw [← hrf]
    have hne : ((rf.length : Int) == 0) = false := by rw [hrf]; simp; omega
    have hemp : rf.isEmpty = false := by rw [hrf]; rfl
    rw [hemp, Bool.false_or] at hlen ⊢
    clear hrf hemp
    cases hb : hasB x.3
    · rw [hb] at hlen Hhas
      simp only [beyD, Bool.false_eq_true, if_false] at hlen ⊢
      have hcn : cs.length + 1 ≤ 1000 := by
        have := itemD_len rf x.3 (d + 1) cs.length (cs ++ [(.gain next, d + 1)])
        simp only [List.length_append, List.length_singleton] at this
        omega
      have hdp := hc.depth (d + 1) (by omega) ((d : Int) + 1) (by omega)
      have c5 := hc.c5
      have f5 := hc.fz 5 (by omega)
      have hdm := hc.dm
      have Hdp := hd hdp
      clear hdp hc
      obtain ⟨ll, ee, hre⟩ : ∃ ll ee, itemD rf x.3 (d + 1) cs.length (cs ++ [(.gain next, d + 1)]) = (ll, ee) := ⟨_, _, rfl⟩
      have Hre := hd hre
      have Hlen := hd hlen
      rw [hre]
      simp only
      clear hlen hre hb
      go_enter Tryd.func100, Tryd.ntmps100
      go_wp2_with fail
      refine Hhas.out.mono ?_
      rintro e w' ⟨rfl, hww⟩
      subst hww
      go_wp2_with fail
      refine (put_c Hdp.out.1 (by omega) 8 0 0 0 0 0 0 0 0 0 next 0 (.gain next) (fun _ _ => rfl)).mono ?_
      rintro e w1 ⟨rfl, hc1, hb1⟩
      have Hb1 := hd (Hdp.out.2.trans hb1)
      have g12 : w1.cell? ⟨g, o + 12, none⟩ = some (.slice ra rn rc) := (Hb1.out.cell (by exact hgC)).trans h12
      have Hc := hd (Hrow.out w1 (d + 1) _ cs.length (HF.out.below HC.out Hb1.out) hc1 (by omega) Hlen.out)
      rw [Hre.out] at Hc
      simp only at Hc
      clear hb1 hc1 h12 c2 c5 f5
      go_wp2_with fail
      refine Hc.out.mono ?_
      rintro e w2 ⟨rfl, hc2, hb2⟩
      have c5 := hc2.c5
      have f5 := hc2.fz 5 (by omega)
      have ecast : ((d + 1 : Nat) : Int) = (d : Int) + 1 := by omega
      rw [ecast] at c5
      have Hc2 := hd hc2
      have Hb2 := hd (Hb1.out.trans hb2)
      clear hc2 hb2 g12 ecast
      go_wp2
      go_ret
      exact ⟨rfl, (Hc2.out.depth d hdm _ (by omega)).1, Hb2.out.trans (Hc2.out.depth d hdm _ (by omega)).2⟩
    · rw [hb] at hlen Hhas
      simp only [beyD, if_true] at hlen ⊢
      have Hc := hd (Hrow.out w d cs next HF.out hc (by omega) hlen)
      obtain ⟨ll, ee, hre⟩ : ∃ ll ee, itemD rf x.3 d next cs = (ll, ee) := ⟨_, _, rfl⟩
      rw [hre] at Hc ⊢
      clear hre hc hlen
      go_enter Tryd.func100, Tryd.ntmps100
      go_wp2_with (first | (go_at_call 110; refine Hhas.out.mono ?_; rintro e w' ⟨rfl, rfl⟩) | (go_at_call 48; refine Hc.out.mono ?_; rintro e w' ⟨rfl, hc2, hb2⟩))
      go_ret
      exact ⟨rfl, hc2, hb2⟩
theorem CodeAt.patch {w : World} {base C gs cap e ee next d d' : Nat} {rf : List Nat} {vr : Value} {cs : List Sd} {css : List (List Value)} (h : CodeAt w base C rf vr d cs) (h4 : w.cell? ⟨C, 0, none⟩ = some (.slice (some ⟨gs, 0, none⟩) cs.length cap)) (hgb : base ≤ gs)
    (hown : w.ownsRow base 119 14 (.slice (some ⟨gs, 0, none⟩) cs.length cap) cs.length css.flatten) (hcs : SdsOk css cs) (he : cs[e]? = some (.fork 0 next, d')) :
    CodeAt (w.setCell ⟨gs, e * 14 + 10, none⟩ (.int .i64 ee)) base C rf vr d (cs.set e (.fork ee next, d')) ∧ Below C w (w.setCell ⟨gs, e * 14 + 10, none⟩ (.int .i64 ee)) := by
  have hC := h.hC
  have hel : e < cs.length := (List.getElem?_eq_some_iff.1 he).1
  have hec : e < css.length := by rw [hcs.1]; exact hel
  have hc := hcs.2 e css[e] _ (List.getElem?_eq_getElem hec) he
  obtain ⟨u, hu⟩ := h.c1
  have hbl : Below C w (w.setCell ⟨gs, e * 14 + 10, none⟩ (.int .i64 ee)) := Below.setCell (Below.refl C w) (by show C ≤ gs; omega) _
  have far : ∀ i, (w.setCell ⟨gs, e * 14 + 10, none⟩ (.int .i64 ee)).cell? ⟨C, i, none⟩ = w.cell? ⟨C, i, none⟩ := fun i => World.cell?_setCell_far _ _ _ _ (by show gs ≠ C; omega)
  have hdx : ∀ x, cs[e]? = some x → x.2 = d' := fun x hx => by rw [he] at hx; cases hx; rfl
  refine ⟨⟨hC, by simp [World.setCell]; exact h.hb, fun i hi => by rw [World.frozen?_setCell]; exact h.fz i hi, ⟨u, (far 1).trans hu⟩, (far 2).trans h.c2, ?_, (far 4).trans h.c4, (far 5).trans h.c5, h.rf.below hbl, h.dm, fun x hx => ?_, _, css.set e (css[e].set 10 (.int .i64 ee)), (far 0).trans h4, ?_, hcs.set hdx ?_⟩, hbl⟩
  · rw [map_set_same hdx]; exact (far 3).trans h.c3
  · rcases List.mem_or_eq_of_mem_set hx with hx | rfl
    · exact h.dl x hx
    · exact h.dl (.fork 0 next, d') (List.mem_of_getElem? he)
  · have hfl := flat_len 14 css hcs.lens
    have := owns_set1 hown (j := e * 14 + 10) (by rw [hfl]; omega) (.int .i64 ee)
    rw [set_flat 14 css e 10 css[e] (.int .i64 ee) hcs.lens (List.getElem?_eq_getElem hec) (by omega)] at this
    simpa using this
  · have e1 : css[e] = stepCells 4 (fun _ => 0) 0 0 next d' _ := hc
    rw [e1]
    rfl

set_option maxHeartbeats 1600000 in
theorem cloop_any {rf : List Nat} {vr : Value} (H : Fins) (dp : Nat) (hI : ItemBuilt rf vr H dp) (w : World) (base C d : Nat) (cs : List Sd) (g o : Nat) (ra : Option Addr) (rn rc next : Nat) (x : It) (hF : Fin w H) (hHC : ∀ g arr, H g = some arr → g < C) (hc : CodeAt w base C rf vr d cs) (hgC : g < C)
    (h12 : w.cell? ⟨g, o + 12, none⟩ = some (.slice ra rn rc)) (hR : RowFin (ItemOk H dp) H ra rn [x]) (hbk : bks rf x.3) (hsz : x.2 ≤ 200 ∧ (d : Int) + 1 + x.2 ≤ 300) (hx0 : 0 ≤ x.2) (gb : Lay) (hgb : gb = beyD (rf.isEmpty || hasB x.3) (fun d n c => itemD rf x.3 d n c)) (hlen : (loopD gb d next cs).1.length ≤ 1000) :
    Calls Tryd.prog 99 #[.pointer (some ⟨C, 0, none⟩), .pointer (some ⟨g, o, none⟩), .int .i64 next] w fun e w' => e = .returned (.int .i64 (loopD gb d next cs).2) ∧ CodeAt w' base C rf vr d (loopD gb d next cs).1 ∧ Below C w w' := by
  have hgd : Gd gb := by rw [hgb]; exact gd_bey (gd_item rf x.3) _
  obtain ⟨hl1, hpre⟩ := hgd d cs.length (cs ++ [(.fork 0 next, d)])
  have hpre := hpre cs.length (by simp)
  have Hbey := hd (fun w1 (hF1 : Fin w1 H) (hc1 : CodeAt w1 base C rf vr d (cs ++ [(.fork 0 next, d)])) (g12 : w1.cell? ⟨g, o + 12, none⟩ = some (.slice ra rn rc)) (hl : (gb d cs.length (cs ++ [(.fork 0 next, d)])).1.length ≤ 1000) => cbey_any H dp hI w1 base C d (cs ++ [(.fork 0 next, d)]) g o ra rn rc cs.length x hF1 hHC hc1 hgC g12 hR hbk hsz hx0 (by rw [← hgb]; exact hl))
  rw [← hgb] at Hbey
  simp only [loopD] at hlen ⊢
  simp only [List.length_set] at hlen
  simp only [List.length_append, List.length_singleton] at hl1
  have Hput := hd (put_c hc (by omega) 4 0 0 0 0 0 0 0 0 0 0 next (.fork 0 next) (fun _ _ => rfl))
  obtain ⟨ll, ee, hre⟩ : ∃ ll ee, gb d cs.length (cs ++ [(.fork 0 next, d)]) = (ll, ee) := ⟨_, _, rfl⟩
  rw [hre] at Hbey hlen hl1 hpre ⊢
  simp only at Hbey hlen hl1 hpre ⊢
  rw [List.getElem?_append_right (Nat.le_refl _)] at hpre
  simp at hpre
  have HF := hd hF
  have HC := hd hHC
  have Hpre := hd hpre
  have Hlen := hd hlen
  clear hF hHC hI hR hc hre hpre hbk
  go_enter Tryd.func99, Tryd.ntmps99
  go_wp2_with fail
  refine Hput.out.mono ?_
  rintro e w1 ⟨rfl, hc1, hb1⟩
  have g12 : w1.cell? ⟨g, o + 12, none⟩ = some (.slice ra rn rc) := (hb1.cell (by exact hgC)).trans h12
  have Hc1 := hd (Hbey.out w1 (HF.out.below HC.out hb1) hc1 g12 Hlen.out)
  have Hb1 := hd hb1
  clear hb1 h12 hc1
  go_wp2_with fail
  refine Hc1.out.mono ?_
  rintro e w2 ⟨rfl, hc2, hb2⟩
  obtain ⟨v, css, h4, hown, hcs⟩ := hc2.rows
  obtain ⟨gs, cap, rfl, hgb2, hgl⟩ := hown.form (by omega)
  obtain ⟨z, hz, hzf⟩ := owns_index hown (cs.length * 14 + 10) (by omega)
  have hi0 : (0 : Int) ≤ (cs.length : Int) := by omega
  have hi1 : (cs.length : Int) < (ll.length : Int) := by omega
  have Hc2 := hd hc2
  have Hown := hd hown
  have Hcs := hd hcs
  have Hb2 := hd (Hb1.out.trans hb2)
  clear hc2 hown hcs hb2 g12
  go_wp2
  go_ret
  have hP := Hc2.out.patch (ee := ee) h4 hgb2 Hown.out Hcs.out Hpre.out
  exact ⟨rfl, hP.1, Hb2.out.trans hP.2⟩

/-- sizes in a row -/
theorem rowGo_sum (l : List Int) : ∀ n, 0 ≤ n → (∀ x ∈ l, 0 ≤ x) → rowGo l n ≤ 200 → rowGo l n = n + sumSz l := by
  induction l with
  | nil => intro n _ _ _; simp [rowGo, sumSz]
  | cons x r ih =>
    intro n h0 hx h
    rw [rowGo, sumSz] at *
    have hx0 := hx x (by simp)
    have hr : ∀ y ∈ r, 0 ≤ y := fun y hy => hx y (by simp [hy])
    by_cases hb : 201 < n + x
    · rw [if_pos hb] at h
      have : ∀ (r : List Int) m, (∀ y ∈ r, 0 ≤ y) → 201 ≤ m → 201 ≤ rowGo r m := by
        intro r
        induction r with
        | nil => intro m _ h; exact h
        | cons y q ih => intro m hy h; rw [rowGo]; exact ih _ (fun z hz => hy z (by simp [hz])) (by have := hy y (by simp); split <;> omega)
      have := this r 201 hr (by omega)
      omega
    · rw [if_neg hb] at h ⊢
      rw [ih _ (by omega) hr h]
      omega
theorem sumSz_le : ∀ (q : List Int), (∀ y ∈ q, 0 ≤ y) → 0 ≤ sumSz q ∧ ∀ y ∈ q, y ≤ sumSz q
  | [], _ => ⟨by simp [sumSz], fun y hy => by simp at hy⟩
  | z :: q, h => by
    obtain ⟨h1, h2⟩ := sumSz_le q (fun y hy => h y (by simp [hy]))
    have hz := h z (by simp)
    rw [sumSz]
    refine ⟨by omega, fun y hy => ?_⟩
    rcases List.mem_cons.1 hy with rfl | hy
    · omega
    · have := h2 y hy; omega
theorem rowOk {H : Fins} {d : Nat} {ra : Option Addr} {rn : Nat} {its : List It} (hR : RowFin (ItemOk H d) H ra rn its) : ∀ i (h : i < its.length), ∃ c, ItemOk H d c its[i] := by
  intro i hi
  obtain ⟨h1, h2, h3⟩ := hR
  rcases h3 with h3 | ⟨g, arr, _, _, hP⟩
  · omega
  · exact ⟨_, hP i hi⟩
theorem row_sz {H : Fins} {d : Nat} {ra : Option Addr} {rn : Nat} {its : List It} (hR : RowFin (ItemOk H d) H ra rn its) (hs : rowSz (its.map (·.2)) ≤ 200) : rowSz (its.map (·.2)) = 1 + sumSz (its.map (·.2)) ∧ 0 ≤ sumSz (its.map (·.2)) ∧ ∀ x ∈ its, 0 ≤ x.2 ∧ x.2 ≤ sumSz (its.map (·.2)) := by
  have hpos : ∀ y ∈ its.map (·.2), 0 ≤ y := fun y hy => by
    obtain ⟨z, hz, rfl⟩ := List.mem_map.1 hy
    obtain ⟨i, hi, rfl⟩ := List.getElem_of_mem hz
    obtain ⟨c, hc⟩ := rowOk hR i hi
    exact hc.bd.1
  obtain ⟨h1, h2⟩ := sumSz_le _ hpos
  refine ⟨rowGo_sum _ 1 (by omega) hpos hs, h1, fun x hx => ?_⟩
  have hm : x.2 ∈ its.map (·.2) := List.mem_map.2 ⟨x, hx, rfl⟩
  exact ⟨hpos _ hm, h2 _ hm⟩

set_option maxHeartbeats 1600000 in
theorem cgroup_any {rf : List Nat} {vr : Value} (hrl : rf.length ≤ 2) (H : Fins) (dp : Nat) (hI : ItemBuilt rf vr H dp) (w : World) (base C d : Nat) (cs : List Sd) (g o num : Nat) (ra : Option Addr) (rn rc next : Nat) (its : List It) (hF : Fin w H) (hHC : ∀ g arr, H g = some arr → g < C) (hc : CodeAt w base C rf vr d cs) (hgC : g < C)
    (h9 : w.cell? ⟨g, o + 9, none⟩ = some (.int .i64 num)) (h12 : w.cell? ⟨g, o + 12, none⟩ = some (.slice ra rn rc)) (hR : RowFin (ItemOk H dp) H ra rn its) (hbk : bkss rf (its.map (·.3))) (hsz : ∀ x ∈ its, x.2 ≤ 200 ∧ (d : Int) + x.2 ≤ 300) (hlen : (itemD rf (.grp num (its.map (·.3))) d next cs).1.length ≤ 1000) :
    Calls Tryd.prog 87 #[.pointer (some ⟨C, 0, none⟩), .pointer (some ⟨g, o, none⟩), .int .i64 next] w fun e w' => e = .returned (.int .i64 (itemD rf (.grp num (its.map (·.3))) d next cs).2) ∧ CodeAt w' base C rf vr d (itemD rf (.grp num (its.map (·.3))) d next cs).1 ∧ Below C w w' := by
  have Hslot := hd (slot_any (n := num) hc.c4 hc.rf hrl _ rfl)
  have Hrow := hd (fun w1 cc nn (hF1 : Fin w1 H) (hc1 : CodeAt w1 base C rf vr d cc) (hl1 : (rowD rf (its.map (·.3)) d nn cc).1.length ≤ 1000) => crow_any H dp hI w1 base C d cc ra rn rc nn its hF1 hHC hc1 hR hbk hsz hl1)
  have HF := hd hF
  have HC := hd hHC
  clear hF hHC hI hR hbk hsz
  simp only [itemD] at hlen ⊢
  by_cases hm : num ∈ rf
  · rw [if_pos hm] at hlen ⊢
    have es : slotV rf num = ((rf.idxOf num : Nat) : Int) := by unfold slotV; rw [if_pos hm]
    rw [es] at Hslot
    generalize rf.idxOf num = sl at *
    have hcn : cs.length + 1 ≤ 1000 := by
      have := rowD_len rf (its.map (·.3)) d cs.length (cs ++ [(.shut sl next, d)])
      simp only [List.length_append, List.length_singleton] at this hlen
      omega
    have Hput := hd (put_c hc (by omega) 6 0 0 0 0 0 0 0 0 sl next 0 (.shut sl next) (fun _ _ => rfl))
    obtain ⟨ll, ee, hre⟩ : ∃ ll ee, rowD rf (its.map (·.3)) d cs.length (cs ++ [(.shut sl next, d)]) = (ll, ee) := ⟨_, _, rfl⟩
    have Hre := hd hre
    rw [hre] at hlen ⊢
    simp only [List.length_append, List.length_singleton] at hlen ⊢
    clear hre hc hm es
    have hs0 : ¬ ((sl : Int) < 0) := by omega
    go_enter Tryd.func87, Tryd.ntmps87
    go_wp2_with fail
    refine Hslot.out.mono ?_
    rintro e w' ⟨rfl, hww⟩
    subst hww
    go_wp2_with fail
    refine Hput.out.mono ?_
    rintro e w1 ⟨rfl, hc1, hb1⟩
    have g12 : w1.cell? ⟨g, o + 12, none⟩ = some (.slice ra rn rc) := (hb1.cell (by exact hgC)).trans h12
    have Hc1 := hd (Hrow.out w1 _ cs.length (HF.out.below HC.out hb1) hc1 (by rw [Hre.out]; show ll.length ≤ 1000; omega))
    rw [Hre.out] at Hc1
    simp only at Hc1
    have Hb1 := hd hb1
    clear hb1 h12 h9 hc1
    go_wp2_with fail
    refine Hc1.out.mono ?_
    rintro e w2 ⟨rfl, hc2, hb2⟩
    have Hput2 := hd (put_c hc2 (by omega) 5 0 0 0 0 0 0 0 0 sl ee 0 (.opn sl ee) (fun _ _ => rfl))
    have Hb2 := hd (Hb1.out.trans hb2)
    clear hc2 hb2 g12
    go_wp2_with fail
    refine Hput2.out.mono ?_
    rintro e w3 ⟨rfl, hc3, hb3⟩
    go_wp2
    go_ret
    exact ⟨rfl, hc3, Hb2.out.trans hb3⟩
  · rw [if_neg hm] at hlen ⊢
    have es : slotV rf num = -1 := by unfold slotV; rw [if_neg hm]
    rw [es] at Hslot
    have Hc := hd (Hrow.out w cs next HF.out hc hlen)
    obtain ⟨ll, ee, hre⟩ : ∃ ll ee, rowD rf (its.map (·.3)) d next cs = (ll, ee) := ⟨_, _, rfl⟩
    rw [hre] at Hc ⊢
    simp only at Hc ⊢
    clear hre hc hm es
    go_enter Tryd.func87, Tryd.ntmps87
    go_wp2_with (first | (go_at_call 86; refine Hslot.out.mono ?_; rintro e w' ⟨rfl, rfl⟩) | (go_at_call 48; refine Hc.out.mono ?_; rintro e w' ⟨rfl, hc2, hb2⟩))
    go_ret
    exact ⟨rfl, hc2, hb2⟩
end Go.Proofs.YtldiemjlpnachaaDoor
