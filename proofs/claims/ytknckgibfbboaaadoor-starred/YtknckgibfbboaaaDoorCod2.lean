import Derived.Test.YtknckgibfbboaaaDoorCod
import Derived.Test.YtknckgibfbboaaaDoorRd2
import Derived.Deep.LoopGhost
namespace Go.Proofs.YtknckgibfbboaaaDoor
open Go.RowKit

/-- a step's eleven cells: kind, set, next, other -/
def stepCells (k : Int) (a : Nat → Int) (n o : Int) : List Value :=
  [.int .i64 k, .int .u32 (a 0), .int .u32 (a 1), .int .u32 (a 2), .int .u32 (a 3), .int .u32 (a 4), .int .u32 (a 5), .int .u32 (a 6), .int .u32 (a 7), .int .i64 n, .int .i64 o]
def StpOk (c : List Value) : Stp → Prop
  | .done => c = stepCells 0 (fun _ => 0) 0 0
  | .one f n => ∃ a, c = stepCells 1 a n 0 ∧ ∀ i, i < 8 → Word (a i) f i
  | .beg n => c = stepCells 2 (fun _ => 0) n 0
  | .fin n => c = stepCells 3 (fun _ => 0) n 0
  | .fork n o => c = stepCells 4 (fun _ => 0) n o
theorem StpOk.len {c : List Value} {st : Stp} (h : StpOk c st) : c.length = 11 := by
  cases st with
  | one f n => obtain ⟨a, h, _⟩ := h; rw [h]; rfl
  | _ => rw [show c = _ from h]; rfl
def StpsOk (css : List (List Value)) (cs : List Stp) : Prop := css.length = cs.length ∧ ∀ (i : Nat) c st, css[i]? = some c → cs[i]? = some st → StpOk c st
theorem StpsOk.nil : StpsOk [] [] := ⟨rfl, fun i c st h => by simp at h⟩
theorem StpsOk.snoc {css : List (List Value)} {cs : List Stp} {c : List Value} {st : Stp} (h : StpsOk css cs) (hc : StpOk c st) : StpsOk (css ++ [c]) (cs ++ [st]) := by
  refine ⟨by simp [h.1], fun i c' st' h1 h2 => ?_⟩
  rcases Nat.lt_or_ge i css.length with hi | hi
  · rw [List.getElem?_append_left hi] at h1
    rw [List.getElem?_append_left (by rw [← h.1]; exact hi)] at h2
    exact h.2 i c' st' h1 h2
  · rw [List.getElem?_append_right hi] at h1
    rw [List.getElem?_append_right (by rw [← h.1]; exact hi), ← h.1] at h2
    rcases Nat.eq_zero_or_pos (i - css.length) with h0 | h0
    · rw [h0] at h1 h2
      simp at h1 h2
      rw [← h1, ← h2]
      exact hc
    · rw [List.getElem?_eq_none (by simp; omega)] at h1
      cases h1
theorem StpsOk.lens {css : List (List Value)} {cs : List Stp} (h : StpsOk css cs) : ∀ c ∈ css, c.length = 11 := by
  intro c hc
  obtain ⟨i, hi, rfl⟩ := List.getElem_of_mem hc
  exact (h.2 i css[i] (cs[i]'(by rw [← h.1]; exact hi)) (List.getElem?_eq_getElem hi) (List.getElem?_eq_getElem _)).len
theorem flat_len {α : Type} (m : Nat) : ∀ (css : List (List α)), (∀ c ∈ css, c.length = m) → css.flatten.length = css.length * m
  | [], _ => by simp
  | c :: r, h => by
    rw [List.flatten_cons, List.length_append, flat_len m r (fun x hx => h x (by simp [hx])), h c (by simp), List.length_cons, Nat.add_mul, Nat.one_mul, Nat.add_comm]
theorem flat_get {α : Type} (m : Nat) : ∀ (css : List (List α)) (i j : Nat) (c : List α), (∀ c ∈ css, c.length = m) → css[i]? = some c → j < m → css.flatten[i * m + j]? = c[j]?
  | [], i, j, c, _, h, _ => by simp at h
  | x :: r, 0, j, c, hl, h, hj => by
    simp at h
    subst h
    rw [Nat.zero_mul, Nat.zero_add, List.flatten_cons, List.getElem?_append_left (by rw [hl x (by simp)]; exact hj)]
  | x :: r, i + 1, j, c, hl, h, hj => by
    have hx := hl x (by simp)
    rw [List.flatten_cons, List.getElem?_append_right (by rw [hx, Nat.add_mul]; omega), hx, show (i + 1) * m + j - m = i * m + j by rw [Nat.add_mul]; omega]
    exact flat_get m r i j c (fun y hy => hl y (by simp [hy])) (by simpa using h) hj

/-- the steps lie in memory -/
structure CodeAt (w : World) (base C : Nat) (cs : List Stp) : Prop where
  hC : C < base
  hb : base ≤ w.heap.size
  f0 : w.frozen? ⟨C, 0, none⟩ = false
  f1 : w.frozen? ⟨C, 1, none⟩ = false
  c1 : ∃ u, w.cell? ⟨C, 1, none⟩ = some u
  rows : ∃ v css, w.cell? ⟨C, 0, none⟩ = some v ∧ w.ownsRow base 107 11 v cs.length css.flatten ∧ StpsOk css cs
theorem CodeAt.drewN {w : World} {base C n : Nat} {cs : List Stp} (h : CodeAt w base C cs) : CodeAt (w.drewN n) base C cs := ⟨h.hC, h.hb, h.f0, h.f1, h.c1, h.rows⟩
theorem owns_shape {w : World} {base e size : Nat} {v : Value} {n : Nat} {xs : List Value} (h : w.ownsRow base e size v n xs) : ∃ ao cp, v = .slice ao n cp := by
  rcases h.2 with ⟨rfl, h0⟩ | ⟨g, cap, _, rfl, _⟩
  · exact ⟨none, 0, by rw [h0]⟩
  · exact ⟨_, _, rfl⟩
/-- what put does, of the steps -/
theorem put_c {w : World} {base C : Nat} {cs : List Stp} (h : CodeAt w base C cs) (hn : cs.length ≤ 1000) (k a0 a1 a2 a3 a4 a5 a6 a7 nx ot : Int) (st : Stp)
    (hok : StpOk [.int .i64 k, .int .u32 a0, .int .u32 a1, .int .u32 a2, .int .u32 a3, .int .u32 a4, .int .u32 a5, .int .u32 a6, .int .u32 a7, .int .i64 nx, .int .i64 ot] st) :
    Calls Tryd.prog 39 #[.pointer (some ⟨C, 0, none⟩), .agg #[.int .i64 k, .int .u32 a0, .int .u32 a1, .int .u32 a2, .int .u32 a3, .int .u32 a4, .int .u32 a5, .int .u32 a6, .int .u32 a7, .int .i64 nx, .int .i64 ot]] w
      fun e w' => e = .returned (.int .i64 cs.length) ∧ CodeAt w' base C (cs ++ [st]) ∧ Below C w w' := by
  obtain ⟨v, css, h4, hown, hcs⟩ := h.rows
  obtain ⟨ao, cp, rfl⟩ := owns_shape hown
  have hC := h.hC
  have hb := h.hb
  refine (cput_any C ao cs.length cp base css.flatten w k a0 a1 a2 a3 a4 a5 a6 a7 nx ot h4 h.f0 hown h.hb hn h.hC).mono ?_
  rintro e w' ⟨rfl, g, cap, e4, ho, hat, hlt, hch⟩
  refine ⟨rfl, ⟨hC, Nat.le_trans hb hch.size, (hch.frozen 0).trans h.f0, (hch.frozen 1).trans h.f1, ?_, ?_⟩, ?_⟩
  · obtain ⟨u, hu⟩ := h.c1
    exact ⟨u, (hch.cell 1 (by simp)).trans hu⟩
  · refine ⟨_, css ++ [_], e4, ?_, hcs.snoc hok⟩
    simp only [List.length_append, List.length_singleton, List.flatten_append, List.flatten_cons, List.flatten_nil, List.append_nil]
    exact ho
  · exact hch.below (by omega) (fun k hk => by have := (hown.lt k hk).1; omega)

/-- what item does, at depth d -/
def ItemBuilt (H : Fins) (d : Nat) : Prop := ∀ (w : World) (base C : Nat) (cs : List Stp) (g o : Nat) (cells : List Value) (it : It) (next : Nat), Fin w H → (∀ g arr, H g = some arr → g < C) → CodeAt w base C cs → g < C → (∀ j v, cells[j]? = some v → w.cell? ⟨g, o + j, none⟩ = some v) → ItemOk H d cells it →
    (itemC it.3 next cs).1.length ≤ 1000 →
    Calls Tryd.prog 57 #[.pointer (some ⟨C, 0, none⟩), .pointer (some ⟨g, o, none⟩), .int .i64 next] w fun e w' => e = .returned (.int .i64 (itemC it.3 next cs).2) ∧ CodeAt w' base C (itemC it.3 next cs).1 ∧ Below C w w'
theorem Fin.below {w w' : World} {H : Fins} {C : Nat} (h : Fin w H) (hC : ∀ g arr, H g = some arr → g < C) (hb : Below C w w') : Fin w' H := fun g arr hg => by
  rw [hb.block g (hC g arr hg)]
  exact h g arr hg
theorem itemC_len (x : Tr) (n : Nat) (c : List Stp) : c.length ≤ (itemC x n c).1.length := (frag_item [] x n c).len
theorem rowC_len (x : List Tr) (n : Nat) (c : List Stp) : c.length ≤ (rowC x n c).1.length := (frag_row [] x n c).len
theorem rowC_drop (r : List Tr) (n : Nat) (c : List Stp) : ∀ k, (rowC (r.drop k) n c).1.length ≤ (rowC r n c).1.length
  | 0 => by simp
  | k + 1 => by
    refine Nat.le_trans ?_ (rowC_drop r n c k)
    rcases Nat.lt_or_ge k r.length with h | h
    · rw [List.drop_eq_getElem_cons h, rowC]
      exact itemC_len _ _ _
    · rw [List.drop_eq_nil_of_le h, List.drop_eq_nil_of_le (by omega)]
      exact Nat.le_refl _

set_option maxHeartbeats 1600000 in
theorem crow_any (H : Fins) (d : Nat) (hI : ItemBuilt H d) (w : World) (base C : Nat) (cs : List Stp) (ra : Option Addr) (rn rc next : Nat) (its : List It) (hF : Fin w H) (hHC : ∀ g arr, H g = some arr → g < C) (hc : CodeAt w base C cs) (hR : RowFin (ItemOk H d) H ra rn its) (hlen : (rowC (its.map (·.3)) next cs).1.length ≤ 1000) :
    Calls Tryd.prog 40 #[.pointer (some ⟨C, 0, none⟩), .slice ra rn rc, .int .i64 next] w fun e w' => e = .returned (.int .i64 (rowC (its.map (·.3)) next cs).2) ∧ CodeAt w' base C (rowC (its.map (·.3)) next cs).1 ∧ Below C w w' := by
  obtain ⟨hln, hrn, hrow⟩ := hR
  have HI := hd hI
  have HF := hd hF
  have HC := hd hHC
  have Hrow := hd hrow
  have Hln := hd hln
  have Hlen := hd hlen
  clear hrow hln hI hF hHC hlen
  go_enter Tryd.func40, Tryd.ntmps40
  go_wp2
  go_loopw [7, 8] (fun en i wr => ∃ (k : Nat) (ee : Nat) (ll : List Stp), i = .int .i64 ((k : Int) - 1) ∧ en = .int .i64 ee ∧ k ≤ rn ∧ CodeAt wr base C ll ∧ Hid (Below C w wr) ∧ Hid (rowC ((its.map (·.3)).drop k) next cs = (ll, ee))) (fun _ i _ => (intOf i + 1).toNat)
  case atStart => exact ⟨rn, next, cs, rfl, rfl, Nat.le_refl _, hc, hd (Below.refl _ _), hd (by rw [List.drop_eq_nil_of_le (by rw [List.length_map, Hln.out]; exact Nat.le_refl _), rowC])⟩
  case round =>
    obtain ⟨k, ee, ll, rfl, rfl, hk, hcr, Hb, Hrc⟩ := hrel
    rcases Nat.eq_zero_or_pos k with h0 | h0
    · subst h0
      go_wp2
      go_ret
      have e := Hrc.out
      rw [List.drop_zero] at e
      rw [e]
      exact ⟨rfl, hcr, Hb.out⟩
    · obtain ⟨m, rfl⟩ : ∃ m, k = m + 1 := ⟨k - 1, by omega⟩
      obtain ⟨g, arr, hra, hg, hP⟩ : ∃ g arr, ra = some ⟨g, 0, none⟩ ∧ H g = some arr ∧ ∀ i (h : i < its.length), ItemOk H d (itemAt arr i) its[i] := by
        rcases Hrow.out with h | h
        · omega
        · exact h
      subst hra
      have hml : m < its.length := by rw [Hln.out]; omega
      have hF' := HF.out.below HC.out Hb.out
      have hstep : rowC ((its.map (·.3)).drop m) next cs = itemC its[m].3 ee ll := by
        rw [List.drop_eq_getElem_cons (by rw [List.length_map]; exact hml), rowC, Hrc.out, List.getElem_map]
      have hlm := rowC_drop (its.map (·.3)) next cs m
      rw [hstep] at hlm
      have Hcall := hd (HI.out wr base C ll g (m * 13) (itemAt arr m) its[m] ee hF' HC.out hcr (HC.out g arr hg) (fun j v hv => itemAt_cell (hF' g arr hg) m j v hv) (hP m hml) (Nat.le_trans hlm Hlen.out))
      have Hstep := hd hstep
      obtain ⟨ll2, ee2, hre⟩ : ∃ ll2 ee2, itemC its[m].3 ee ll = (ll2, ee2) := ⟨_, _, rfl⟩
      rw [hre] at Hstep Hcall
      have hm0 : (0 : Int) ≤ (m : Int) := by omega
      have hm1 : (m : Int) < (rn : Int) := by omega
      have hmm : ((m + 1 : Nat) : Int) - 1 = (m : Int) := by omega
      rw [hmm]
      clear hP hg hF' hstep hlm hre h0 hmm hcr
      go_wp2_with (go_at_call 57; refine Hcall.out.mono ?_; rintro e w' ⟨rfl, hc2, hb2⟩)
      go_roundw
      case rel => exact ⟨m, ee2, ll2, by go_num, rfl, by omega, hc2, hd (Hb.out.trans hb2), Hstep⟩
      case measure => simp [intOf]
end Go.Proofs.YtknckgibfbboaaaDoor
