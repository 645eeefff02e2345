import Derived.Test.YtknckgibfbboaaaDoorPut
/- The reader in memory. -/
namespace Go.Proofs.YtknckgibfbboaaaDoor
open Go.RowKit

structure Rw where
  number : Nat
  start : Nat
  items : List It
structure St where
  pos : Nat
  inner : Rw
  outer : List Rw
  groups : Nat
  closed : Nat → Bool
  referred : Nat → Bool
  refs : Nat

theorem RowFin.mono {P Q : List Value → It → Prop} {H H' : Fins} {ra : Option Addr} {rn : Nat} {its : List It} (h : RowFin P H ra rn its) (hP : ∀ c i, P c i → Q c i) (hH : ∀ g arr, H g = some arr → H' g = some arr) : RowFin Q H' ra rn its := by
  obtain ⟨h1, h2, h3⟩ := h
  refine ⟨h1, h2, ?_⟩
  rcases h3 with h3 | ⟨g, arr, e, hg, hi⟩
  · exact .inl h3
  · exact .inr ⟨g, arr, e, hH g arr hg, fun i hi' => hP _ _ (hi i hi')⟩
theorem ItemOk.mono {H H' : Fins} (hH : ∀ g arr, H g = some arr → H' g = some arr) : ∀ {d : Nat} {cs : List Value} {it : It}, ItemOk H d cs it → ItemOk H' d cs it
  | 0, _, _, h => h.elim
  | d + 1, _, _, ⟨a, num, least, most, ra, rn, rc, e, k0, k1, s0, s1, h⟩ => by
    refine ⟨a, num, least, most, ra, rn, rc, e, k0, k1, s0, s1, ?_⟩
    rcases h with ⟨h4, its, hR, hs⟩ | ⟨h5, l0, l1, m0, m1, x, hR, hs⟩ | h
    · exact .inl ⟨h4, its, hR.mono (fun _ _ => ItemOk.mono hH) hH, hs⟩
    · exact .inr (.inl ⟨h5, l0, l1, m0, m1, x, hR.mono (fun _ _ => ItemOk.mono hH) hH, hs⟩)
    · exact .inr (.inr h)
theorem ItemOk.succ {H : Fins} : ∀ {d : Nat} {cs : List Value} {it : It}, ItemOk H d cs it → ItemOk H (d + 1) cs it
  | 0, _, _, h => h.elim
  | d + 1, _, _, ⟨a, num, least, most, ra, rn, rc, e, k0, k1, s0, s1, h⟩ => by
    refine ⟨a, num, least, most, ra, rn, rc, e, k0, k1, s0, s1, ?_⟩
    rcases h with ⟨h4, its, hR, hs⟩ | ⟨h5, l0, l1, m0, m1, x, hR, hs⟩ | h
    · exact .inl ⟨h4, its, hR.mono (fun _ _ => ItemOk.succ) (fun _ _ h => h), hs⟩
    · exact .inr (.inl ⟨h5, l0, l1, m0, m1, x, hR.mono (fun _ _ => ItemOk.succ) (fun _ _ h => h), hs⟩)
    · exact .inr (.inr h)
theorem ItemOk.le {H : Fins} {d : Nat} {cs : List Value} {it : It} (h : ItemOk H d cs it) : ∀ k, ItemOk H (d + k) cs it
  | 0 => h
  | k + 1 => (ItemOk.le h k).succ
theorem ItemOk.len {H : Fins} : ∀ {d : Nat} {cs : List Value} {it : It}, ItemOk H d cs it → cs.length = 13
  | 0, _, _, h => h.elim
  | _ + 1, _, _, ⟨_, _, _, _, _, _, _, e, _⟩ => by rw [e]; rfl
theorem ItemOk.kind {H : Fins} : ∀ {d : Nat} {cs : List Value} {it : It}, ItemOk H d cs it → cs[0]? = some (.int .i64 it.1) ∧ 0 ≤ it.1 ∧ it.1 ≤ 5
  | 0, _, _, h => h.elim
  | _ + 1, _, _, ⟨_, _, _, _, _, _, _, e, k0, k1, _⟩ => by rw [e]; exact ⟨rfl, k0, k1⟩
theorem ItemOk.oneCell {H : Fins} : ∀ {d : Nat} {cs : List Value} {it : It}, ItemOk H d cs it → ∃ a num least most ra rn rc, cs = cellsOf it.1 a num least most ra rn rc
  | 0, _, _, h => h.elim
  | _ + 1, _, _, ⟨a, num, least, most, ra, rn, rc, e, _⟩ => ⟨a, num, least, most, ra, rn, rc, e⟩

/-- the items' cells, item by item -/
def AllOk (H : Fins) : List (List Value) → List It → Prop
  | [], [] => True
  | c :: cs, i :: is => (∃ d, ItemOk H d c i) ∧ AllOk H cs is
  | _, _ => False
theorem AllOk.length {H : Fins} : ∀ {cs : List (List Value)} {is : List It}, AllOk H cs is → cs.length = is.length
  | [], [], _ => rfl
  | _ :: _, _ :: _, h => by rw [List.length_cons, List.length_cons, AllOk.length h.2]
  | [], _ :: _, h => h.elim
  | _ :: _, [], h => h.elim
theorem AllOk.mono {H H' : Fins} (hH : ∀ g arr, H g = some arr → H' g = some arr) : ∀ {cs : List (List Value)} {is : List It}, AllOk H cs is → AllOk H' cs is
  | [], [], _ => trivial
  | _ :: _, _ :: _, ⟨⟨d, h⟩, r⟩ => ⟨⟨d, h.mono hH⟩, AllOk.mono hH r⟩
  | [], _ :: _, h => h.elim
  | _ :: _, [], h => h.elim
theorem AllOk.snoc {H : Fins} {c : List Value} {i : It} (hc : ∃ d, ItemOk H d c i) : ∀ {cs : List (List Value)} {is : List It}, AllOk H cs is → AllOk H (cs ++ [c]) (is ++ [i])
  | [], [], _ => ⟨hc, trivial⟩
  | _ :: _, _ :: _, h => ⟨h.1, AllOk.snoc hc h.2⟩
  | [], _ :: _, h => h.elim
  | _ :: _, [], h => h.elim
theorem AllOk.unsnoc {H : Fins} {i : It} : ∀ {cs : List (List Value)} {is : List It}, AllOk H cs (is ++ [i]) → ∃ cs' c, cs = cs' ++ [c] ∧ AllOk H cs' is ∧ ∃ d, ItemOk H d c i
  | [], [], h => h.elim
  | [], _ :: _, h => h.elim
  | [c], [], h => ⟨[], c, rfl, trivial, h.1⟩
  | _ :: _ :: _, [], h => h.2.elim
  | c :: cs, j :: is, h => by
    obtain ⟨cs', c', rfl, h1, h2⟩ := AllOk.unsnoc (cs := cs) (is := is) h.2
    exact ⟨c :: cs', c', rfl, ⟨h.1, h1⟩, h2⟩
theorem AllOk.flat {H : Fins} : ∀ {cs : List (List Value)} {is : List It}, AllOk H cs is → cs.flatten.length = is.length * 13
  | [], [], _ => rfl
  | c :: cs, i :: is, ⟨⟨_, h⟩, r⟩ => by rw [List.flatten_cons, List.length_append, h.len, AllOk.flat r, List.length_cons]; omega
  | [], _ :: _, h => h.elim
  | _ :: _, [], h => h.elim
/-- one depth serves all -/
theorem AllOk.deep {H : Fins} : ∀ {cs : List (List Value)} {is : List It}, AllOk H cs is → ∃ D, ∀ i (h : i < is.length), ItemOk H D ((cs.flatten.drop (i * 13)).take 13) is[i]
  | [], [], _ => ⟨0, fun i h => absurd h (by simp)⟩
  | c :: cs, j :: is, ⟨⟨d, h⟩, r⟩ => by
    obtain ⟨D, hD⟩ := AllOk.deep r
    refine ⟨d + D, fun i hi => ?_⟩
    cases i with
    | zero =>
      rw [List.flatten_cons, Nat.zero_mul, List.drop_zero, List.take_append_of_le_length (by rw [h.len]; omega), List.take_of_length_le (by rw [h.len]; omega)]
      exact h.le D
    | succ i =>
      rw [List.flatten_cons, show (i + 1) * 13 = c.length + i * 13 by rw [h.len]; omega, List.drop_append, List.drop_eq_nil_of_le (by omega), List.nil_append, show c.length + i * 13 - c.length = i * 13 by omega, Nat.add_comm d D]
      exact (hD i (by simpa using hi)).le d
  | [], _ :: _, h => h.elim
  | _ :: _, [], h => h.elim

/-- a row that is being read -/
def Live (w : World) (base : Nat) (H : Fins) (v : Value) (its : List It) : Prop :=
  ∃ cs, AllOk H cs its ∧ w.ownsRow base 127 13 v its.length cs.flatten
theorem owns_same {w w' : World} {base e size n : Nat} {v : Value} {xs : List Value} (h : w.ownsRow base e size v n xs) (hk : ∀ k, v.ownBlock = some k → w'.heap[k]? = w.heap[k]?) : w'.ownsRow base e size v n xs := by
  obtain ⟨h1, h2⟩ := h
  refine ⟨h1, ?_⟩
  rcases h2 with h2 | ⟨g, cap, cur, rfl, hb, hg, r⟩
  · exact .inl h2
  · exact .inr ⟨g, cap, cur, rfl, hb, by rw [hk g rfl]; exact hg, r⟩
theorem Live.same {w w' : World} {base : Nat} {H : Fins} {v : Value} {its : List It} (h : Live w base H v its) (hk : ∀ k, v.ownBlock = some k → w'.heap[k]? = w.heap[k]?) : Live w' base H v its := by
  obtain ⟨cs, h1, h2⟩ := h
  exact ⟨cs, h1, owns_same h2 hk⟩
theorem Live.mono {w : World} {base : Nat} {H H' : Fins} {v : Value} {its : List It} (h : Live w base H v its) (hH : ∀ g arr, H g = some arr → H' g = some arr) : Live w base H' v its := by
  obtain ⟨cs, h1, h2⟩ := h
  exact ⟨cs, h1.mono hH, h2⟩
theorem Live.shape {w : World} {base : Nat} {H : Fins} {v : Value} {its : List It} (h : Live w base H v its) : ∃ ao cp, v = .slice ao its.length cp := by
  obtain ⟨cs, _, h2⟩ := h
  rcases h2.2 with ⟨rfl, h0⟩ | ⟨g, cap, _, rfl, _⟩
  · exact ⟨none, 0, by rw [h0]⟩
  · exact ⟨_, _, rfl⟩

/-- the rows around: their cells in the stack's array -/
def outCells : List Rw → List Value → List Value
  | r :: rs, v :: vs => .int .i64 r.number :: .int .i64 r.start :: v :: outCells rs vs
  | _, _ => []
def OutOk (w : World) (base : Nat) (H : Fins) : List Value → List Rw → Prop
  | [], [] => True
  | v :: vs, r :: rs => Live w base H v r.items ∧ OutOk w base H vs rs
  | _, _ => False
theorem OutOk.same {w w' : World} {base : Nat} {H : Fins} : ∀ {vs : List Value} {rs : List Rw}, OutOk w base H vs rs → (∀ v ∈ vs, ∀ k, v.ownBlock = some k → w'.heap[k]? = w.heap[k]?) → OutOk w' base H vs rs
  | [], [], _, _ => trivial
  | v :: vs, _ :: _, h, hk => ⟨h.1.same (hk v (by simp)), OutOk.same h.2 (fun u hu => hk u (by simp [hu]))⟩
  | [], _ :: _, h, _ => h.elim
  | _ :: _, [], h, _ => h.elim
theorem OutOk.mono {w : World} {base : Nat} {H H' : Fins} (hH : ∀ g arr, H g = some arr → H' g = some arr) : ∀ {vs : List Value} {rs : List Rw}, OutOk w base H vs rs → OutOk w base H' vs rs
  | [], [], _ => trivial
  | _ :: _, _ :: _, h => ⟨h.1.mono hH, OutOk.mono hH h.2⟩
  | [], _ :: _, h => h.elim
  | _ :: _, [], h => h.elim
theorem OutOk.snoc {w : World} {base : Nat} {H : Fins} {v : Value} {r : Rw} (hv : Live w base H v r.items) : ∀ {vs : List Value} {rs : List Rw}, OutOk w base H vs rs → OutOk w base H (vs ++ [v]) (rs ++ [r])
  | [], [], _ => ⟨hv, trivial⟩
  | _ :: _, _ :: _, h => ⟨h.1, OutOk.snoc hv h.2⟩
  | [], _ :: _, h => h.elim
  | _ :: _, [], h => h.elim
theorem OutOk.unsnoc {w : World} {base : Nat} {H : Fins} {r : Rw} : ∀ {vs : List Value} {rs : List Rw}, OutOk w base H vs (rs ++ [r]) → ∃ vs' v, vs = vs' ++ [v] ∧ OutOk w base H vs' rs ∧ Live w base H v r.items
  | [], [], h => h.elim
  | [], _ :: _, h => h.elim
  | [v], [], h => ⟨[], v, rfl, trivial, h.1⟩
  | _ :: _ :: _, [], h => h.2.elim
  | v :: vs, q :: rs, h => by
    obtain ⟨vs', v', rfl, h1, h2⟩ := OutOk.unsnoc (vs := vs) (rs := rs) h.2
    exact ⟨v :: vs', v', rfl, ⟨h.1, h1⟩, h2⟩
theorem OutOk.length {w : World} {base : Nat} {H : Fins} : ∀ {vs : List Value} {rs : List Rw}, OutOk w base H vs rs → vs.length = rs.length
  | [], [], _ => rfl
  | _ :: _, _ :: _, h => by rw [List.length_cons, List.length_cons, OutOk.length h.2]
  | [], _ :: _, h => h.elim
  | _ :: _, [], h => h.elim
theorem outCells_snoc : ∀ {rs : List Rw} {vs : List Value}, vs.length = rs.length → ∀ (r : Rw) (v : Value), outCells (rs ++ [r]) (vs ++ [v]) = outCells rs vs ++ [.int .i64 r.number, .int .i64 r.start, v]
  | [], [], _, _, _ => rfl
  | _ :: rs, _ :: vs, h, r, v => by simp [outCells, outCells_snoc (rs := rs) (vs := vs) (by simpa using h) r v]
  | [], _ :: _, h, _, _ => by simp at h
  | _ :: _, [], h, _, _ => by simp at h
theorem outCells_len : ∀ {rs : List Rw} {vs : List Value}, vs.length = rs.length → (outCells rs vs).length = rs.length * 3
  | [], [], _ => rfl
  | _ :: rs, _ :: vs, h => by simp [outCells, outCells_len (rs := rs) (vs := vs) (by simpa using h)]; omega
  | [], _ :: _, h => by simp at h
  | _ :: _, [], h => by simp at h

/-- the rows' arrays are apart, and none of them is finished -/
def Apart (H : Fins) (vs : List Value) : Prop := (vs.filterMap Value.ownBlock).Nodup ∧ ∀ b ∈ vs.filterMap Value.ownBlock, H b = none

structure Rd (w : World) (base R : Nat) (s : ByteArray) (H : Fins) (σ : St) : Prop where
  hR : R < base
  hb : base ≤ w.heap.size
  c0 : w.cell? ⟨R, 0, none⟩ = some (.string s)
  c1 : w.cell? ⟨R, 1, none⟩ = some (.int .i64 σ.pos)
  c2 : w.cell? ⟨R, 2, none⟩ = some (.int .i64 σ.inner.number)
  c3 : w.cell? ⟨R, 3, none⟩ = some (.int .i64 σ.inner.start)
  c6 : w.cell? ⟨R, 6, none⟩ = some (.int .i64 σ.groups)
  c7 : ∀ i, i < 10 → w.cell? ⟨R, 7 + i, none⟩ = some (.bool (σ.closed i))
  c17 : ∀ i, i < 10 → w.cell? ⟨R, 17 + i, none⟩ = some (.bool (σ.referred i))
  c27 : w.cell? ⟨R, 27, none⟩ = some (.int .i64 σ.refs)
  fz : ∀ i, i < 28 → w.frozen? ⟨R, i, none⟩ = false
  fin : Fin w H
  finb : ∀ g arr, H g = some arr → base ≤ g
  rows : ∃ vi vo rs, w.cell? ⟨R, 4, none⟩ = some vi ∧ w.cell? ⟨R, 5, none⟩ = some vo ∧ Live w base H vi σ.inner.items ∧ w.ownsRow base 94 3 vo σ.outer.length (outCells σ.outer rs) ∧ OutOk w base H rs σ.outer ∧ Apart H (vi :: vo :: rs)
end Go.Proofs.YtknckgibfbboaaaDoor
