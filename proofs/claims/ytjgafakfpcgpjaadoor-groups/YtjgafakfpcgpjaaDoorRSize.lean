/- The document's reader: the sizes of its items. -/
import Derived.Test.YtjgafakfpcgpjaaDoorRItem
namespace Go.Proofs.YtjgafakfpcgpjaaDoor
open Go.RowKit

def bByte : ByteArray := ⟨#[98, 121, 116, 101]⟩
def bGroup : ByteArray := ⟨#[103, 114, 111, 117, 112]⟩
def bTimes : ByteArray := ⟨#[116, 105, 109, 101, 115]⟩
def isKind (k : Int) (is : ByteArray) : Prop := (k = 0 ∧ is = ⟨#[98, 121, 116, 101]⟩) ∨ (k = 1 ∧ is = ⟨#[94]⟩) ∨ (k = 2 ∧ is = ⟨#[36]⟩) ∨ (k = 3 ∧ is = ⟨#[98, 97, 99, 107]⟩)
def tmSz (m n x : Int) : Int := if 1000 < x then 1000 else 1 + cop m n * x
/-- a finished row of pointers to items -/
def RRow (P : Nat → Int × Int → Prop) (H : Fins) (ao : Option Addr) (rn : Nat) (its : List (Int × Int)) : Prop :=
  its.length = rn ∧ rn ≤ 1000 ∧ (rn = 0 ∨ ∃ g arr, ao = some ⟨g, 0, none⟩ ∧ H g = some arr ∧ ∀ i (h : i < its.length), ∃ b, arr[i]? = some (.pointer (some ⟨b, 0, none⟩)) ∧ P b its[i])
def RItemOk (H : Fins) : Nat → Nat → Int × Int → Prop
  | 0, _, _ => False
  | d + 1, b, it => ∃ arr, H b = some arr ∧ arr.size = 262 ∧ 1 ≤ it.2 ∧ it.2 ≤ 2000000 ∧
      ((∃ is, arr[0]? = some (.string is) ∧ isKind it.1 is ∧ it.2 = 1) ∨
       (it.1 = 4 ∧ arr[0]? = some (.string ⟨#[103, 114, 111, 117, 112]⟩) ∧ ∃ ao rn rc its, arr[258]? = some (.slice ao rn rc) ∧ RRow (RItemOk H d) H ao rn its ∧ it.2 = 1 + (1 + sumSz (its.map (·.2)))) ∨
       (it.1 = 5 ∧ arr[0]? = some (.string ⟨#[116, 105, 109, 101, 115]⟩) ∧ ∃ q qi m n, arr[259]? = some (.pointer (some ⟨q, 0, none⟩)) ∧ arr[260]? = some (.int .i64 m) ∧ arr[261]? = some (.int .i64 n) ∧ 0 ≤ m ∧ m ≤ 20 ∧ -1 ≤ n ∧ n ≤ 20 ∧ RItemOk H d q qi ∧ it.2 = tmSz m n qi.2))
def RFin (w : World) (H : Fins) : Prop := ∀ g arr, H g = some arr → ∃ t fr, w.heap[g]? = some (.cells arr t fr)
theorem RFin.cell {w : World} {H : Fins} (h : RFin w H) {g : Nat} {arr : Array Value} (hg : H g = some arr) {i : Nat} {v : Value} (hv : arr[i]? = some v) : w.cell? ⟨g, i, none⟩ = some v := by
  obtain ⟨t, fr, ht⟩ := h g arr hg
  rw [cell_of_row w g i arr _ _ ht]; exact hv
theorem RItemOk.bd {H : Fins} : ∀ {d b : Nat} {it : Int × Int}, RItemOk H d b it → 1 ≤ it.2 ∧ it.2 ≤ 2000000
  | 0, _, _, h => h.elim
  | _ + 1, _, _, ⟨_, _, _, h0, h1, _⟩ => ⟨h0, h1⟩
def RItemSaid (H : Fins) (d : Nat) : Prop := ∀ (w : World) (b : Nat) (it : Int × Int), RFin w H → RItemOk H d b it →
    Calls Tryd.prog 18 #[.pointer (some ⟨b, 0, none⟩)] w fun e w' => e = .returned (.int .i64 it.2) ∧ w' = w
theorem sumSz_snoc (l : List Int) (x : Int) : sumSz (l ++ [x]) = sumSz l + x := by
  induction l with
  | nil => simp [sumSz]
  | cons y r ih => rw [List.cons_append, sumSz, ih, sumSz]; omega
theorem sumSz_bd (l : List Int) (M : Int) (h : ∀ x ∈ l, 1 ≤ x ∧ x ≤ M) : 0 ≤ sumSz l ∧ sumSz l ≤ l.length * M := by
  induction l with
  | nil => simp [sumSz]
  | cons x r ih =>
    have h1 := h x (by simp)
    have h2 := ih (fun y hy => h y (by simp [hy]))
    rw [sumSz, List.length_cons]
    refine ⟨by omega, ?_⟩
    rw [show ((r.length + 1 : Nat) : Int) * M = r.length * M + M by rw [Int.natCast_add, Int.add_mul]; simp]
    omega

set_option maxHeartbeats 800000 in
theorem size_any (H : Fins) (d : Nat) (hI : RItemSaid H d) (w : World) (ao : Option Addr) (rn rc : Nat) (its : List (Int × Int)) (hF : RFin w H) (hR : RRow (RItemOk H d) H ao rn its) :
    Calls Tryd.prog 12 #[.slice ao rn rc] w fun e w' => e = .returned (.int .i64 (1 + sumSz (its.map (·.2)))) ∧ w' = w := by
  obtain ⟨hlen, hrn, hrow⟩ := hR
  have HI := hd hI
  clear hI
  have HF := hd hF
  clear hF
  have Hrow := hd hrow
  have Hlen := hd hlen
  clear hrow hlen
  go_enter Tryd.func12, Tryd.ntmps12
  go_wp2
  go_loop [3, 5, 8] (fun z _ i => ∃ (k : Nat) (n : Int), i = .int .i64 k ∧ z = .int .i64 n ∧ 0 ≤ n ∧ n ≤ 1 + k * 2000000 ∧ k ≤ rn ∧ Hid (n = 1 + sumSz ((its.take k).map (·.2)))) (fun _ _ i => rn - (intOf i).toNat)
  case atStart => exact ⟨0, 1, rfl, rfl, by omega, by omega, by omega, hd rfl⟩
  case round =>
    obtain ⟨k, n, rfl, rfl, hn0, hn1, hk, HN⟩ := hrel
    by_cases hlt : k < rn
    · obtain ⟨g, arr, hra, hg, hP⟩ : ∃ g arr, ao = some ⟨g, 0, none⟩ ∧ H g = some arr ∧ ∀ i (h : i < its.length), ∃ b, arr[i]? = some (.pointer (some ⟨b, 0, none⟩)) ∧ RItemOk H d b its[i] := by
        rcases Hrow.out with h | h
        · omega
        · exact h
      have hkl : k < its.length := by rw [Hlen.out]; exact hlt
      obtain ⟨b, hb, hok⟩ := hP k hkl
      have hbd := hok.bd
      subst hra
      have Hsn : Hid (sumSz ((its.take (k + 1)).map (·.2)) = sumSz ((its.take k).map (·.2)) + its[k].2) := by
        rw [take_snoc' its k hkl, List.map_append]; exact sumSz_snoc _ _
      have Hc := hd (HI.out w b its[k] HF.out hok)
      have hcell : w.cell? ⟨g, k, none⟩ = some (.pointer (some ⟨b, 0, none⟩)) := HF.out.cell hg hb
      have Hg := hd hg
      have HP := hd hP
      clear hg hP hok hb
      generalize hx : its[k].2 = x at hbd Hsn Hc
      have Hx := hd hx
      clear hx
      go_wp2_with (go_at_call 18; refine Hc.out.mono ?_; rintro e w' ⟨rfl, rfl⟩)
      go_round
      case rel => exact ⟨k + 1, n + x, by go_num, rfl, by omega, by omega, by omega, hd (by rw [Hsn.out, HN.out]; omega)⟩
      case measure => simp [intOf]; omega
    · go_wp2
      go_ret
      have hkr : k = its.length := by rw [Hlen.out]; omega
      have : 1 + sumSz (its.map (·.2)) = n := by rw [HN.out, hkr, List.take_length]
      rw [this]
      exact ⟨rfl, rfl⟩

set_option maxHeartbeats 1600000 in
theorem ritemSize_any (H : Fins) : ∀ d, RItemSaid H d
  | 0 => fun _ _ _ _ h => h.elim
  | d + 1 => by
    have ih := ritemSize_any H d
    intro w b it hF hok
    obtain ⟨arr, hH, hsz, hs1, hs2, hcase⟩ := hok
    obtain ⟨kd, sz⟩ := it
    simp only at *
    rcases hcase with ⟨is, h0, hk, rfl⟩ | ⟨rfl, h0, ao, rn, rc, its, h258, hR, rfl⟩ | ⟨rfl, h0, q, qi, m, n, h259, h260, h261, hm0, hm1, hn0, hn1, hq, rfl⟩
    · have c0 := hF.cell hH h0
      clear hF hH h0 hsz hs1 hs2 ih
      rcases hk with ⟨_, rfl⟩ | ⟨_, rfl⟩ | ⟨_, rfl⟩ | ⟨_, rfl⟩
      all_goals
        go_enter Tryd.func18, Tryd.ntmps18
        go_wp2
        go_ret
        exact ⟨rfl, rfl⟩
    · have c0 := hF.cell hH h0
      have c3 := hF.cell hH h258
      have Hc := hd (size_any H d ih w ao rn rc its hF hR)
      clear hF hH h0 hsz ih hR h258
      generalize sumSz (its.map (·.2)) = z at hs1 hs2 Hc ⊢
      go_enter Tryd.func18, Tryd.ntmps18
      go_wp2_with (go_at_call 12; refine Hc.out.mono ?_; rintro e w' ⟨rfl, rfl⟩)
      go_ret
      exact ⟨rfl, rfl⟩
    · have c0 := hF.cell hH h0
      have c4 := hF.cell hH h259
      have c5 := hF.cell hH h260
      have c6 := hF.cell hH h261
      have Hc := hd (ih w q qi hF hq)
      have hbd := hq.bd
      have hcb := cop_bd m n ⟨hm0, hm1⟩ ⟨hn0, hn1⟩
      have Ht : Hid (tmSz m n qi.2 = if 1000 < qi.2 then 1000 else 1 + cop m n * qi.2) := hd rfl
      clear hF hH h0 hsz ih hq h259 h260 h261 hs1 hs2
      generalize tmSz m n qi.2 = tz at Ht ⊢
      generalize qi.2 = x at hbd Hc Ht
      by_cases hx : 1000 < x
      · have Hz : Hid (tz = 1000) := hd (by rw [Ht.out, if_pos hx])
        clear Ht
        by_cases hneg : n < 0
        · by_cases hm : m + 1 < 1
          · omega
          · go_enter Tryd.func18, Tryd.ntmps18
            go_wp2_with (go_at_call 18; refine Hc.out.mono ?_; rintro e w' ⟨rfl, rfl⟩)
            go_ret
            rw [Hz.out]
            exact ⟨rfl, rfl⟩
        · by_cases hm : n < 1
          all_goals
            go_enter Tryd.func18, Tryd.ntmps18
            go_wp2_with (go_at_call 18; refine Hc.out.mono ?_; rintro e w' ⟨rfl, rfl⟩)
            go_ret
            rw [Hz.out]
            exact ⟨rfl, rfl⟩
      · have Hz : Hid (tz = 1 + cop m n * x) := hd (by rw [Ht.out, if_neg hx])
        clear Ht
        generalize hc : cop m n = c at hcb Hz
        have hy : 0 ≤ c * x ∧ c * x ≤ 21 * 1000 := by
          constructor
          · exact Int.mul_nonneg (by omega) (by omega)
          · exact Int.le_trans (Int.mul_le_mul_of_nonneg_right (by omega : c ≤ 21) (by omega)) (by omega)
        by_cases hneg : n < 0
        · by_cases hm : m + 1 < 1
          · omega
          · have e : c = m + 1 := by rw [← hc]; unfold cop; rw [if_pos (show n = -1 by omega), if_neg (by omega)]
            subst e
            clear hc
            go_enter Tryd.func18, Tryd.ntmps18
            go_wp2_with (go_at_call 18; refine Hc.out.mono ?_; rintro e w' ⟨rfl, rfl⟩)
            go_ret
            rw [Hz.out]
            exact ⟨rfl, rfl⟩
        · by_cases hm : n < 1
          · have e : c = 1 := by rw [← hc]; unfold cop; rw [if_neg (show ¬ n = -1 by omega), if_pos (by omega)]
            subst e
            clear hc
            rw [Int.one_mul] at hy
            have Hz2 : Hid (tz = 1 + x) := hd (by rw [Hz.out, Int.one_mul])
            clear Hz
            go_enter Tryd.func18, Tryd.ntmps18
            go_wp2_with (go_at_call 18; refine Hc.out.mono ?_; rintro e w' ⟨rfl, rfl⟩)
            go_ret
            rw [Hz2.out]
            exact ⟨rfl, rfl⟩
          · have e : c = n := by rw [← hc]; unfold cop; rw [if_neg (show ¬ n = -1 by omega), if_neg (by omega)]
            subst e
            clear hc
            go_enter Tryd.func18, Tryd.ntmps18
            go_wp2_with (go_at_call 18; refine Hc.out.mono ?_; rintro e w' ⟨rfl, rfl⟩)
            go_ret
            rw [Hz.out]
            exact ⟨rfl, rfl⟩
end Go.Proofs.YtjgafakfpcgpjaaDoor
