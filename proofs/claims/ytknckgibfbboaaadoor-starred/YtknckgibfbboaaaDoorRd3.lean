import Derived.Test.YtknckgibfbboaaaDoorRd2
import Derived.Test.YtknckgibfbboaaaDoorSets
namespace Go.Proofs.YtknckgibfbboaaaDoor
open Go.RowKit

/-- is there an item ahead that is no anchor? -/
def canB (its : List It) : Bool := match its.getLast? with
  | none => false
  | some i => (i.1 != 1) && (i.1 != 2)
theorem canB_nil : canB [] = false := rfl
theorem canB_snoc (is : List It) (i : It) : canB (is ++ [i]) = ((i.1 != 1) && (i.1 != 2)) := by simp [canB]
theorem list_snoc {α : Type} (l : List α) : l = [] ∨ ∃ is i, l = is ++ [i] := by
  rcases List.eq_nil_or_concat l with h | ⟨is, i, h⟩
  · exact .inl h
  · exact .inr ⟨is, i, by simpa using h⟩

/-- the last item of a row that is being read -/
theorem Live.last {w : World} {base : Nat} {H : Fins} {v : Value} {is : List It} {i : It} (h : Live w base H v (is ++ [i])) :
    ∃ g cap css c, v = .slice (some ⟨g, 0, none⟩) (is.length + 1) cap ∧ AllOk H css is ∧ (∃ d, ItemOk H d c i) ∧ w.ownsRow base 127 13 (.slice (some ⟨g, 0, none⟩) (is.length + 1) cap) (is.length + 1) (css.flatten ++ c) ∧
      ∀ j u, c[j]? = some u → w.cell? ⟨g, is.length * 13 + j, none⟩ = some u := by
  obtain ⟨cs, hall, hown⟩ := h
  obtain ⟨css, c, rfl, h1, h2⟩ := hall.unsnoc
  obtain ⟨g, cap, rfl, _, _⟩ := hown.form (by simp)
  simp only [List.length_append, List.length_singleton, List.flatten_append, List.flatten_cons, List.flatten_nil, List.append_nil] at hown
  refine ⟨g, cap, css, c, by simp, h1, h2, hown, fun j u hu => ?_⟩
  refine owns_cell hown _ u ?_
  rw [List.getElem?_append_right (by rw [h1.flat]; omega), h1.flat, show is.length * 13 + j - is.length * 13 = j by omega]
  exact hu

set_option maxHeartbeats 800000 in
theorem canRepeat_any {w : World} {base R : Nat} {s : ByteArray} {H : Fins} {σ : St} (h : Rd w base R s H σ) (hn : σ.inner.items.length ≤ 1000) :
    Calls Tryd.prog 53 #[.pointer (some ⟨R, 0, none⟩)] w fun e w' => e = .returned (.bool (canB σ.inner.items)) ∧ w' = w := by
  obtain ⟨vi, vo, rs, h4, _, hlive, _, _, _⟩ := h.rows
  rcases list_snoc σ.inner.items with he | ⟨is, i, he⟩
  · rw [he] at hlive ⊢
    obtain ⟨ao, cp, rfl⟩ := hlive.shape
    rw [canB_nil]
    clear h hlive
    go_enter Tryd.func53, Tryd.ntmps53
    go_wp2
    go_ret
    exact ⟨rfl, rfl⟩
  · rw [he] at hlive hn ⊢
    obtain ⟨g, cap, css, c, rfl, _, ⟨d, hok⟩, _, hcell⟩ := hlive.last
    obtain ⟨hk, hk0, hk1⟩ := hok.kind
    have h0 : w.cell? ⟨g, is.length * 13, none⟩ = some (.int .i64 i.1) := hcell 0 _ hk
    rw [canB_snoc]
    simp only [List.length_append, List.length_singleton] at hn
    obtain ⟨kd, sz, trr⟩ := i
    simp only at *
    generalize is.length = m at *
    have hm0 : (0 : Int) ≤ (m : Int) := by omega
    have hne : ((m : Int) + 1 == 0) = false := by simp; omega
    clear h hlive hcell hok hk he
    go_enter Tryd.func53, Tryd.ntmps53
    go_wp2
    · go_ret
      have hk1' : kd = 1 := by assumption
      exact ⟨ret_bool (by rw [hk1']; rfl), rfl⟩
    · go_ret
      exact ⟨rfl, rfl⟩

set_option maxHeartbeats 800000 in
theorem endsRow_any {w : World} {base R : Nat} {s : ByteArray} {H : Fins} {σ : St} (h : Rd w base R s H σ) (hs : s.size ≤ 60) (i : Int) (q : Nat) (hiq : i = q) (hq : q ≤ 1000) :
    Calls Tryd.prog 52 #[.pointer (some ⟨R, 0, none⟩), .int .i64 i] w fun e w' => e = .returned (.bool (decide (s.size ≤ q) || sw s.data.toList q [92, 41])) ∧ w' = w := by
  have c0 := h.c0
  subst hiq
  clear h
  by_cases hlt : q < s.size
  · cases hsw : sw s.data.toList q [92, 41]
    all_goals
      have Hv : Hid (decide (s.size ≤ q) = false) := hd (by simp; omega)
      go_enter Tryd.func52, Tryd.ntmps52
      go_wp2_with (go_at_call 68; refine (hasAt_at s _ _ q [92, 41] _ rfl rfl (by omega) (by decide) (by decide) (by omega)).mono ?_; rintro e w' ⟨rfl, rfl⟩)
      go_ret
      rw [Hv.out]
      exact ⟨rfl, rfl⟩
  · have Hv : Hid (decide (s.size ≤ q) = true) := hd (by simp; omega)
    go_enter Tryd.func52, Tryd.ntmps52
    go_wp2
    go_ret
    rw [Hv.out]
    exact ⟨rfl, rfl⟩
end Go.Proofs.YtknckgibfbboaaaDoor
