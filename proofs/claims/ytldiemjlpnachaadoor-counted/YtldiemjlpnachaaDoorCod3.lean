import Derived.Test.YtldiemjlpnachaaDoorCod2
namespace Go.Proofs.YtldiemjlpnachaaDoor
open Go.RowKit

theorem forksD_mono {g : Lay} (hg : Gd g) (d n e : Nat) (c : List Sd) : ∀ t k, (forksD g d n t e c).1.length ≤ (forksD g d n (t + k) e c).1.length
  | t, 0 => Nat.le_refl _
  | t, k + 1 => by
    refine Nat.le_trans (forksD_mono hg d n e c t k) ?_
    rw [← Nat.add_assoc, forksD]
    simp only [List.length_append, List.length_singleton]
    have := (hg d (forksD g d n (t + k) e c).2 (forksD g d n (t + k) e c).1).1
    omega
theorem copiesD_mono {g : Lay} (hg : Gd g) (d e : Nat) (c : List Sd) : ∀ t k, (copiesD g d t e c).1.length ≤ (copiesD g d (t + k) e c).1.length
  | t, 0 => Nat.le_refl _
  | t, k + 1 => by
    refine Nat.le_trans (copiesD_mono hg d e c t k) ?_
    rw [← Nat.add_assoc, copiesD]
    exact (hg _ _ _).1
theorem repD_eq (g gb : Lay) (a b : Int) (ha : 0 ≤ a) (d n : Nat) (c c1 : List Sd) (e1 : Nat) (h1 : (if b = -1 then loopD gb d n c else (c, n)) = (c1, e1)) :
    repD g gb a b d n c = copiesD g d a.toNat (forksD gb d n (b - a).toNat e1 c1).2 (forksD gb d n (b - a).toNat e1 c1).1 := by
  unfold repD
  by_cases hb : b = -1
  · rw [if_pos hb] at h1 ⊢
    have : (b - a).toNat = 0 := by omega
    rw [this, forksD, h1]
  · rw [if_neg hb] at h1 ⊢
    cases h1
    rfl

set_option maxHeartbeats 6400000 in
theorem crep_step {rf : List Nat} {vr : Value} (H : Fins) (dp : Nat) (hI : ItemBuilt rf vr H dp) (hRB : RepBuilt rf vr H dp) : RepBuilt rf vr H (dp + 1) := by
  intro w base C d cs g o cells it next hF hHC hc hgC hcs hok hk5 hbk hsz hdsz hlen
  obtain ⟨a, num, least, most, ra, rn, rc, rfl, _, _, _, _, hcase⟩ := hok
  have h0 : w.cell? ⟨g, o, none⟩ = some (.int .i64 it.1) := hcs 0 _ rfl
  have h10 : w.cell? ⟨g, o + 10, none⟩ = some (.int .i64 least) := hcs 10 _ rfl
  have h11 : w.cell? ⟨g, o + 11, none⟩ = some (.int .i64 most) := hcs 11 _ rfl
  have h12 : w.cell? ⟨g, o + 12, none⟩ = some (.slice ra rn rc) := hcs 12 _ rfl
  clear hcs
  obtain ⟨kd, sz, tr⟩ := it
  simp only at *
  subst hk5
  rcases hcase with ⟨h4, _⟩ | ⟨_, hl0, hl1, hm0, hm1, x, hR, hsx, rfl, hlm⟩ | ⟨_, h5, _⟩
  · omega
  rotate_left
  · exact absurd rfl h5
  have hxb : 0 ≤ x.2 ∧ x.2 + 1 ≤ sz := by
    obtain ⟨c, hx⟩ := rowOk hR 0 (by simp)
    simp only [List.getElem_cons_zero] at hx
    have hx0 := hx.bd.1
    have hcb := cop_bd least most ⟨hl0, hl1⟩ ⟨hm0, hm1⟩
    unfold repSz at hsx
    by_cases hb : 201 < 1 + cop least most * x.2
    · rw [if_pos hb] at hsx; omega
    · rw [if_neg hb] at hsx
      have := Int.mul_le_mul_of_nonneg_right hcb.1 hx0
      omega
  simp only [bks] at hbk
  obtain ⟨hln, hrn, hrow⟩ := id hR
  simp only [List.length_singleton] at hln
  subst hln
  obtain ⟨gr, arr, hra, hgr, hP⟩ : ∃ g arr, ra = some ⟨g, 0, none⟩ ∧ H g = some arr ∧ ∀ i (h : i < [x].length), ItemOk H dp (itemAt arr i) [x][i] := by
    rcases hrow with h | h
    · omega
    · exact h
  have hx := hP 0 (by simp)
  simp only [List.getElem_cons_zero] at hx
  have hxc : ∀ j v, (itemAt arr 0)[j]? = some v → w.cell? ⟨gr, 0 + j, none⟩ = some v := fun j v hv => by
    have := itemAt_cell (hF gr arr hgr) 0 j v hv
    simpa using this
  obtain ⟨xa, xnum, xl, xm, xra, xrn, xrc, xe, xk0, xk1, xst⟩ := hx.star
  rw [xe] at hxc
  have y0 : w.cell? ⟨gr, 0, none⟩ = some (.int .i64 x.1) := hxc 0 _ rfl
  have y10 : w.cell? ⟨gr, 10, none⟩ = some (.int .i64 xl) := hxc 10 _ rfl
  have y11 : w.cell? ⟨gr, 11, none⟩ = some (.int .i64 xm) := hxc 11 _ rfl
  have HS2 := hd (isStar_any w gr 0 x.1 xl xm y0 (by simpa using y10) (by simpa using y11) (starT x.3) xst.symm)
  clear hrow hP y0 y10 y11
  by_cases hss : (least = 0 ∧ most = -1) ∧ starT x.3 = true
  · obtain ⟨⟨rfl, rfl⟩, hst⟩ := hss
    have hitem : itemD rf (.rep 0 (-1) x.3) d next cs = itemD rf x.3 d next cs := by rw [itemD, if_pos ⟨⟨rfl, rfl⟩, hst⟩]
    rw [hitem] at hlen ⊢
    rw [hst] at HS2 xst
    have hx5 : x.1 = 5 := by have := xst.symm; simp at this; exact this.1
    have Hc := hd (hRB w base C d cs gr 0 (itemAt arr 0) x next hF hHC hc (hHC gr arr hgr) (fun j v hv => by have := itemAt_cell (hF gr arr hgr) 0 j v hv; simpa using this) hx hx5 hbk (by omega) (by omega) hlen)
    have HS1 := hd (isStar_any w g o 5 0 (-1) h0 h10 h11 true (by simp))
    obtain ⟨ll, ee, hre⟩ : ∃ ll ee, itemD rf x.3 d next cs = (ll, ee) := ⟨_, _, rfl⟩
    rw [hre] at Hc ⊢
    simp only at Hc ⊢
    subst hra
    clear hitem hre hc hF hHC hI hRB hR hx hxc xst hst xe hbk hlen hgr
    go_enter Tryd.func88, Tryd.ntmps88
    go_wp2_with fail
    refine HS1.out.mono ?_
    rintro e w' ⟨rfl, hww⟩
    subst w'
    go_wp2_with fail
    refine HS2.out.mono ?_
    rintro e w' ⟨rfl, hww⟩
    subst w'
    go_wp2_with fail
    refine Hc.out.mono ?_
    rintro e w' ⟨rfl, hc2, hb2⟩
    go_wp2
    go_ret
    exact ⟨rfl, hc2, hb2⟩
  have hitem : itemD rf (.rep least most x.3) d next cs = repD (fun d n c => itemD rf x.3 d n c) (beyD (rf.isEmpty || hasB x.3) (fun d n c => itemD rf x.3 d n c)) least most d next cs := by simp only [itemD]; rw [if_neg hss]
  rw [hitem] at hlen ⊢
  obtain ⟨gb, hgb⟩ : ∃ gb, gb = beyD (rf.isEmpty || hasB x.3) (fun d n c => itemD rf x.3 d n c) := ⟨_, rfl⟩
  rw [← hgb] at hlen ⊢
  obtain ⟨r, hr⟩ : ∃ r, repD (fun d n c => itemD rf x.3 d n c) gb least most d next cs = r := ⟨_, rfl⟩
  rw [hr] at hlen ⊢
  obtain ⟨c1, e1, h1⟩ : ∃ c1 e1, (if most = -1 then loopD gb d next cs else (cs, next)) = (c1, e1) := ⟨_, _, rfl⟩
  rw [repD_eq _ _ _ _ hl0 _ _ _ c1 e1 h1] at hr
  have hg : Gd (fun d n c => itemD rf x.3 d n c) := gd_item rf x.3
  have hgg : Gd gb := by rw [hgb]; exact gd_bey hg _
  obtain ⟨c2, e2, h2⟩ : ∃ c2 e2, forksD gb d next (most - least).toNat e1 c1 = (c2, e2) := ⟨_, _, rfl⟩
  rw [h2] at hr
  simp only at hr
  have hln2 : ∀ t, t ≤ least.toNat → (copiesD (fun d n c => itemD rf x.3 d n c) d t e2 c2).1.length ≤ 1000 := fun t ht => by
    have := copiesD_mono hg d e2 c2 t (least.toNat - t)
    rw [show t + (least.toNat - t) = least.toNat by omega, hr] at this
    omega
  have hln1 : ∀ t, t ≤ (most - least).toNat → (forksD gb d next t e1 c1).1.length ≤ 1000 := fun t ht => by
    have := forksD_mono hgg d next e1 c1 t ((most - least).toNat - t)
    rw [show t + ((most - least).toNat - t) = (most - least).toNat by omega, h2] at this
    have h0 := hln2 0 (by omega)
    rw [copiesD] at h0
    omega
  have Hrow := hd (fun w1 cc nn (hF1 : Fin w1 H) (hc1 : CodeAt w1 base C rf vr d cc) (hl1 : (itemD rf x.3 d nn cc).1.length ≤ 1000) => crow_any H dp hI w1 base C d cc ra 1 rc nn [x] hF1 hHC hc1 hR (by simp only [List.map_cons, List.map_nil, bkss]; exact ⟨hbk, trivial⟩) (fun y hy => by simp at hy; subst hy; exact ⟨by omega, by omega⟩) (by simp only [List.map_cons, List.map_nil, rowD]; exact hl1))
  simp only [List.map_cons, List.map_nil, rowD] at Hrow
  have Hbey := hd (fun w1 cc nn (hF1 : Fin w1 H) (hc1 : CodeAt w1 base C rf vr d cc) (g12 : w1.cell? ⟨g, o + 12, none⟩ = some (.slice ra 1 rc)) (hl1 : (gb d nn cc).1.length ≤ 1000) => cbey_any H dp hI w1 base C d cc g o ra 1 rc nn x hF1 hHC hc1 hgC g12 hR hbk ⟨by omega, by omega⟩ hxb.1 (by rw [← hgb]; exact hl1))
  rw [← hgb] at Hbey
  have Hloop := hd (fun hmo : most = -1 => cloop_any H dp hI w base C d cs g o ra 1 rc next x hF hHC hc hgC h12 hR hbk ⟨by omega, by omega⟩ hxb.1 gb hgb (by
    rw [if_pos hmo] at h1
    rw [h1]
    exact hln1 0 (by omega)))
  have HF := hd hF
  have HC := hd hHC
  have H1 := hd h1
  have H2 := hd h2
  have Hr := hd hr
  have Hln1 := hd hln1
  have Hln2 := hd hln2
  have hz0 := hln1 0 (by omega)
  rw [forksD] at hz0
  have cellsOf' : ∀ wr, Below C w wr → wr.cell? ⟨g, o + 10, none⟩ = some (.int .i64 least) ∧ wr.cell? ⟨g, o + 11, none⟩ = some (.int .i64 most) ∧ wr.cell? ⟨g, o + 12, none⟩ = some (.slice ra 1 rc) := fun _ hb => ⟨(hb.cell (by exact hgC)).trans h10, (hb.cell (by exact hgC)).trans h11, (hb.cell (by exact hgC)).trans h12⟩
  have Hcells := hd cellsOf'
  have hgbl : ∀ d n c, c.length ≤ (gb d n c).1.length := fun d n c => (hgg d n c).1
  have Hgbl := hd hgbl
  clear hgbl cellsOf' hF hHC hI hRB hR h1 h2 hr hln1 hln2 hg hgg hz0 hitem hgb hbk hx hxc xst xe hgr hsx
  subst hra
  by_cases hmo : most = -1
  · have hL := Hloop.out hmo
    have e0 := H1.out
    rw [if_pos hmo] at e0
    rw [e0] at hL
    simp only at hL
    have HL := hd hL
    clear hL e0
    subst hmo
    by_cases hlz : least = 0
    · subst hlz
      have hst : starT x.3 = false := by
        cases hb : starT x.3 with
        | false => rfl
        | true => exact absurd ⟨⟨rfl, rfl⟩, hb⟩ hss
      rw [hst] at HS2
      have HS1 := hd (isStar_any w g o 5 0 (-1) h0 h10 h11 true (by simp))
      clear hss hst
      go_enter Tryd.func88, Tryd.ntmps88
      go_wp2_with fail
      refine HS1.out.mono ?_
      rintro e w' ⟨rfl, hww⟩
      subst w'
      go_wp2_with fail
      refine HS2.out.mono ?_
      rintro e w' ⟨rfl, hww⟩
      subst w'
      go_wp2_with fail
      refine HL.out.mono ?_
      rintro e W ⟨rfl, hcW, hbW⟩
      have HbW := hd hbW
      obtain ⟨g10, g11, g12⟩ := Hcells.out W HbW.out
      clear hbW h10 h11 h12 h0
      go_wp2
      clear g10 g11 g12
      go_loopw [7, 8] (fun en k wr => ∃ (t : Nat) (ll : List Sd) (ee : Nat), k = .int .i64 ((0 : Int) + t) ∧ en = .int .i64 ee ∧ t ≤ ((-1) - (0 : Int)).toNat ∧ CodeAt wr base C rf vr d ll ∧ Hid (Below C w wr) ∧ Hid (forksD gb d next t e1 c1 = (ll, ee))) (fun _ k _ => ((-1) - intOf k).toNat)
      case atStart => exact ⟨0, c1, e1, by go_num, rfl, Nat.zero_le _, hcW, HbW, hd rfl⟩
      case round =>
        obtain ⟨t, ll, ee, rfl, rfl, ht, hcr, Hb, Hfk⟩ := hrel
        obtain ⟨g10, g11, g12⟩ := Hcells.out wr Hb.out
        by_cases hlt : (0 : Int) + t < (-1)
        · omega
        · have hte : ((-1) - (0 : Int)).toNat = t := by omega
          have H2' : Hid (ll = c2 ∧ ee = e2) := by
            have e0 := H2.out
            rw [hte, Hfk.out] at e0
            exact hd (by simpa using e0)
          obtain ⟨rfl, rfl⟩ := H2'.out
          go_wp2
          go_loopw [7, 10] (fun en k wr => ∃ (t : Nat) (l3 : List Sd) (e3 : Nat), k = .int .i64 t ∧ en = .int .i64 e3 ∧ t ≤ (0 : Int).toNat ∧ CodeAt wr base C rf vr d l3 ∧ Hid (Below C w wr) ∧ Hid (copiesD (fun d n c => itemD rf x.3 d n c) d t ee ll = (l3, e3))) (fun _ k _ => ((0 : Int) - intOf k).toNat)
          case atStart => exact ⟨0, ll, ee, rfl, rfl, Nat.zero_le _, hcr, Hb, hd rfl⟩
          case round =>
            clear g10 g11 g12 hcr Hb
            obtain ⟨t2, l3, e3, rfl, rfl, ht2, hcr, Hb, Hcp⟩ := hrel
            obtain ⟨g10, g11, g12⟩ := Hcells.out wr Hb.out
            by_cases hlt2 : (t2 : Int) < (0 : Int)
            · omega
            · have hte2 : (0 : Int).toNat = t2 := by omega
              go_wp2
              go_ret
              have e0 := Hr.out
              rw [hte2, Hcp.out] at e0
              rw [← e0]
              exact ⟨rfl, hcr, Hb.out⟩
    have HS1 := hd (isStar_any w g o 5 least (-1) h0 h10 h11 false (by simp [hlz]))
    clear hss
    go_enter Tryd.func88, Tryd.ntmps88
    go_wp2_with fail
    refine HS1.out.mono ?_
    rintro e w' ⟨rfl, hww⟩
    subst w'
    go_wp2_with fail
    refine HL.out.mono ?_
    rintro e W ⟨rfl, hcW, hbW⟩
    have HbW := hd hbW
    obtain ⟨g10, g11, g12⟩ := Hcells.out W HbW.out
    clear hbW h10 h11 h12 h0
    go_wp2
    clear g10 g11 g12
    go_loopw [7, 8] (fun en k wr => ∃ (t : Nat) (ll : List Sd) (ee : Nat), k = .int .i64 (least + t) ∧ en = .int .i64 ee ∧ t ≤ ((-1) - least).toNat ∧ CodeAt wr base C rf vr d ll ∧ Hid (Below C w wr) ∧ Hid (forksD gb d next t e1 c1 = (ll, ee))) (fun _ k _ => ((-1) - intOf k).toNat)
    case atStart => exact ⟨0, c1, e1, by go_num, rfl, Nat.zero_le _, hcW, HbW, hd rfl⟩
    case round =>
      obtain ⟨t, ll, ee, rfl, rfl, ht, hcr, Hb, Hfk⟩ := hrel
      obtain ⟨g10, g11, g12⟩ := Hcells.out wr Hb.out
      by_cases hlt : least + t < (-1)
      · omega
      · have hte : ((-1) - least).toNat = t := by omega
        have H2' : Hid (ll = c2 ∧ ee = e2) := by
          have e0 := H2.out
          rw [hte, Hfk.out] at e0
          exact hd (by simpa using e0)
        obtain ⟨rfl, rfl⟩ := H2'.out
        go_wp2
        go_loopw [7, 10] (fun en k wr => ∃ (t : Nat) (l3 : List Sd) (e3 : Nat), k = .int .i64 t ∧ en = .int .i64 e3 ∧ t ≤ least.toNat ∧ CodeAt wr base C rf vr d l3 ∧ Hid (Below C w wr) ∧ Hid (copiesD (fun d n c => itemD rf x.3 d n c) d t ee ll = (l3, e3))) (fun _ k _ => (least - intOf k).toNat)
        case atStart => exact ⟨0, ll, ee, rfl, rfl, Nat.zero_le _, hcr, Hb, hd rfl⟩
        case round =>
          clear g10 g11 g12 hcr Hb
          obtain ⟨t2, l3, e3, rfl, rfl, ht2, hcr, Hb, Hcp⟩ := hrel
          obtain ⟨g10, g11, g12⟩ := Hcells.out wr Hb.out
          by_cases hlt2 : (t2 : Int) < least
          · obtain ⟨l4, e4, hg⟩ : ∃ l4 e4, itemD rf x.3 d e3 l3 = (l4, e4) := ⟨_, _, rfl⟩
            have hnx : copiesD (fun d n c => itemD rf x.3 d n c) d (t2 + 1) ee ll = (l4, e4) := by
              rw [copiesD, Hcp.out]
              exact hg
            have hl2 := Hln2.out (t2 + 1) (by omega)
            rw [hnx] at hl2
            have Hc1 := hd (Hrow.out wr l3 e3 (HF.out.below HC.out Hb.out) hcr (by rw [hg]; exact hl2))
            rw [hg] at Hc1
            simp only at Hc1
            have Hnx := hd hnx
            clear hnx hg hcr
            go_wp2_with fail
            refine Hc1.out.mono ?_
            rintro e w1 ⟨rfl, hc1, hb1⟩
            go_wp2
            go_roundw
            case rel => exact ⟨t2 + 1, l4, e4, by go_num, rfl, by omega, hc1, hd (Hb.out.trans hb1), Hnx⟩
            case measure => simp [intOf]; omega
          · have hte2 : least.toNat = t2 := by omega
            go_wp2
            go_ret
            have e0 := Hr.out
            rw [hte2, Hcp.out] at e0
            rw [← e0]
            exact ⟨rfl, hcr, Hb.out⟩
  · have e0 := H1.out
    rw [if_neg hmo] at e0
    simp only [Prod.mk.injEq] at e0
    obtain ⟨rfl, rfl⟩ := e0
    have hmb : (most == -1) = false := by simpa using hmo
    have HS1 := hd (isStar_any w g o 5 least most h0 h10 h11 false (by simp [hmo]))
    clear hmo hss
    have hcW := hc
    have HbW := hd (Below.refl C w)
    go_enter Tryd.func88, Tryd.ntmps88
    go_wp2_with fail
    refine HS1.out.mono ?_
    rintro e w' ⟨rfl, hww⟩
    subst w'
    go_wp2
    clear h10 h11 h12 hc h0
    go_loopw [7, 8] (fun en k wr => ∃ (t : Nat) (ll : List Sd) (ee : Nat), k = .int .i64 (least + t) ∧ en = .int .i64 ee ∧ t ≤ (most - least).toNat ∧ CodeAt wr base C rf vr d ll ∧ Hid (Below C w wr) ∧ Hid (forksD gb d next t next cs = (ll, ee))) (fun _ k _ => (most - intOf k).toNat)
    case atStart => exact ⟨0, cs, next, by go_num, rfl, Nat.zero_le _, hcW, HbW, hd rfl⟩
    case round =>
      obtain ⟨t, ll, ee, rfl, rfl, ht, hcr, Hb, Hfk⟩ := hrel
      obtain ⟨g10, g11, g12⟩ := Hcells.out wr Hb.out
      by_cases hlt : least + t < most
      · obtain ⟨l2, ee2, hg⟩ : ∃ l2 ee2, gb d ee ll = (l2, ee2) := ⟨_, _, rfl⟩
        have hnx : forksD gb d next (t + 1) next cs = (l2 ++ [(.fork ee2 next, d)], l2.length) := by
          rw [forksD, Hfk.out]
          simp only [hg]
        have hl2 := Hln1.out (t + 1) (by omega)
        rw [hnx] at hl2
        simp only [List.length_append, List.length_singleton] at hl2
        have Hc1 := hd (Hbey.out wr ll ee (HF.out.below HC.out Hb.out) hcr g12 (by rw [hg]; show l2.length ≤ 1000; omega))
        rw [hg] at Hc1
        simp only at Hc1
        have Hnx := hd hnx
        clear hnx hg hcr
        go_wp2_with fail
        refine Hc1.out.mono ?_
        rintro e w1 ⟨rfl, hc1, hb1⟩
        have Hp := hd (put_c hc1 (by omega) 4 0 0 0 0 0 0 0 0 0 ee2 next (.fork ee2 next) (fun _ _ => rfl))
        have Hb1 := hd (Hb.out.trans hb1)
        clear hc1 hb1 g10 g11 g12
        go_wp2_with fail
        refine Hp.out.mono ?_
        rintro e w2 ⟨rfl, hc2, hb2⟩
        go_wp2
        go_roundw
        case rel => exact ⟨t + 1, _, l2.length, by go_num, rfl, by omega, hc2, hd (Hb1.out.trans hb2), Hnx⟩
        case measure => simp [intOf]; omega
      · have hte : (most - least).toNat = t := by omega
        have H2' : Hid (ll = c2 ∧ ee = e2) := by
          have e0 := H2.out
          rw [hte, Hfk.out] at e0
          exact hd (by simpa using e0)
        obtain ⟨rfl, rfl⟩ := H2'.out
        go_wp2
        go_loopw [7, 10] (fun en k wr => ∃ (t : Nat) (l3 : List Sd) (e3 : Nat), k = .int .i64 t ∧ en = .int .i64 e3 ∧ t ≤ least.toNat ∧ CodeAt wr base C rf vr d l3 ∧ Hid (Below C w wr) ∧ Hid (copiesD (fun d n c => itemD rf x.3 d n c) d t ee ll = (l3, e3))) (fun _ k _ => (least - intOf k).toNat)
        case atStart => exact ⟨0, ll, ee, rfl, rfl, Nat.zero_le _, hcr, Hb, hd rfl⟩
        case round =>
          clear g10 g11 g12 hcr Hb
          obtain ⟨t2, l3, e3, rfl, rfl, ht2, hcr, Hb, Hcp⟩ := hrel
          obtain ⟨g10, g11, g12⟩ := Hcells.out wr Hb.out
          by_cases hlt2 : (t2 : Int) < least
          · obtain ⟨l4, e4, hg⟩ : ∃ l4 e4, itemD rf x.3 d e3 l3 = (l4, e4) := ⟨_, _, rfl⟩
            have hnx : copiesD (fun d n c => itemD rf x.3 d n c) d (t2 + 1) ee ll = (l4, e4) := by
              rw [copiesD, Hcp.out]
              exact hg
            have hl2 := Hln2.out (t2 + 1) (by omega)
            rw [hnx] at hl2
            have Hc1 := hd (Hrow.out wr l3 e3 (HF.out.below HC.out Hb.out) hcr (by rw [hg]; exact hl2))
            rw [hg] at Hc1
            simp only at Hc1
            have Hnx := hd hnx
            clear hnx hg hcr
            go_wp2_with fail
            refine Hc1.out.mono ?_
            rintro e w1 ⟨rfl, hc1, hb1⟩
            go_wp2
            go_roundw
            case rel => exact ⟨t2 + 1, l4, e4, by go_num, rfl, by omega, hc1, hd (Hb.out.trans hb1), Hnx⟩
            case measure => simp [intOf]; omega
          · have hte2 : least.toNat = t2 := by omega
            go_wp2
            go_ret
            have e0 := Hr.out
            rw [hte2, Hcp.out] at e0
            rw [← e0]
            exact ⟨rfl, hcr, Hb.out⟩
end Go.Proofs.YtldiemjlpnachaaDoor
