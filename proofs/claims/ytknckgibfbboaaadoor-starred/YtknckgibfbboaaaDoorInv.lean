import Derived.Test.YtknckgibfbboaaaDoorStep
namespace Go.Proofs.YtknckgibfbboaaaDoor
open Go.RowKit

theorem brkGo_bd {l : List UInt8} {start first : Nat} (hs : start < l.length) : ∀ f p bc e q, start < p → p ≤ l.length → brkGo l start first f p bc = (e, q) → e ≤ 6 ∧ q ≤ l.length ∧ (e = 0 → start < q)
  | 0, p, bc, e, q, _, _, h => by
    rw [brkGo] at h; simp at h; omega
  | f + 1, p, bc, e, q, h1, h2, h => by
    rw [brkGo] at h
    split at h
    · rename_i hp
      split at h
      · simp at h; omega
      · obtain ⟨e0, p1, b1, hm⟩ : ∃ e0 p1 b1, mstep l p bc = (e0, p1, b1) := ⟨_, _, _, rfl⟩
        have hbd := mstep_bd hp hm
        rw [hm] at h
        simp only at h
        split at h
        · exact brkGo_bd hs f p1 b1 e q (by omega) (by omega) h
        · rename_i he
          simp at h
          omega
    · simp at h; omega
theorem brk_bd {l : List UInt8} {start e q : Nat} (hs : start < l.length) (h : brk l start = (e, q)) : e ≤ 6 ∧ q ≤ l.length ∧ (e = 0 → start < q) := by
  unfold brk at h
  by_cases hsw : sw l (start + 1) [94] = true
  · have hf : brkFirst l start = start + 2 := by unfold brkFirst; rw [if_pos hsw]
    rw [hf] at h
    rw [sw1] at hsw
    simp at hsw
    exact brkGo_bd hs _ _ _ _ _ (by omega) (by omega) h
  · have hf : brkFirst l start = start + 1 := by unfold brkFirst; rw [if_neg hsw]
    rw [hf] at h
    exact brkGo_bd hs _ _ _ _ _ (by omega) (by omega) h

structure Inv (l : List UInt8) (σ : St) : Prop where
  pos : σ.pos ≤ l.length
  items : σ.inner.items.length ≤ σ.pos
  outer : σ.outer.length ≤ σ.pos
  groups : σ.groups ≤ 9
  refs : σ.refs ≤ 2
  number : σ.inner.number ≤ σ.groups
  rows : ∀ r ∈ σ.outer, r.items.length ≤ σ.pos ∧ r.number ≤ σ.groups
theorem Inv.bd {l : List UInt8} {σ : St} (h : Inv l σ) (hl : l.length ≤ 60) : Bd σ :=
  ⟨by have := h.pos; omega, by have := h.items; have := h.pos; omega, by have := h.outer; have := h.pos; omega, h.groups, h.refs, by have := h.number; have := h.groups; omega, fun r hr => by have := (h.rows r hr).1; have := h.pos; omega⟩
theorem Inv.add {l : List UInt8} {σ : St} (h : Inv l σ) (it : It) (wd : Nat) (hw : 1 ≤ wd) (hp : σ.pos + wd ≤ l.length) : Inv l (addIt σ it wd) ∧ σ.pos < (addIt σ it wd).pos := by
  have := h.items
  have := h.outer
  refine ⟨⟨hp, ?_, by show σ.outer.length ≤ σ.pos + wd; omega, h.groups, h.refs, h.number, fun r hr => ?_⟩, by show σ.pos < σ.pos + wd; omega⟩
  · show (σ.inner.items ++ [it]).length ≤ σ.pos + wd
    simp; omega
  · have := h.rows r hr
    exact ⟨by show _ ≤ σ.pos + wd; omega, this.2⟩
theorem repL_len (its : List It) (l m : Int) (h : canB its = true) : (repL its l m).length = its.length := by
  rcases list_snoc its with e | ⟨is, i, e⟩
  · rw [e] at h; cases h
  · rw [e, repL_snoc]; simp
theorem Inv.rep {l : List UInt8} {σ : St} (h : Inv l σ) (q : Nat) (a b : Int) (hc : canB σ.inner.items = true) (h1 : σ.pos < q) (h2 : q ≤ l.length) : Inv l { σ with pos := q, inner := { σ.inner with items := repL σ.inner.items a b } } := by
  have := h.items
  have := h.outer
  refine ⟨h2, ?_, by show σ.outer.length ≤ q; omega, h.groups, h.refs, h.number, fun r hr => ?_⟩
  · show (repL σ.inner.items a b).length ≤ q
    rw [repL_len _ _ _ hc]; omega
  · have := h.rows r hr
    exact ⟨by show _ ≤ q; omega, this.2⟩

theorem stepT_inv {l : List UInt8} {σ σ' : St} (h : Inv l σ) (hp : σ.pos < l.length) (hs : stepT l σ = (0, σ')) : Inv l σ' ∧ σ.pos < σ'.pos := by
  have hit := h.items
  have hou := h.outer
  unfold stepT at hs
  split at hs
  · unfold escT at hs
    split at hs
    · simp at hs
    · rename_i hl
      have hp2 : σ.pos + 2 ≤ l.length := by omega
      split at hs
      · unfold openT at hs
        split at hs
        · simp at hs
        · rename_i hg
          simp only [Prod.mk.injEq, true_and] at hs
          subst hs
          refine ⟨⟨hp2, by simp, ?_, by show σ.groups + 1 ≤ 9; omega, h.refs, Nat.le_refl _, fun r hr => ?_⟩, by show σ.pos < σ.pos + 2; omega⟩
          · show (σ.outer ++ [σ.inner]).length ≤ σ.pos + 2
            simp; omega
          · have hr' : r ∈ σ.outer ∨ r = σ.inner := by simpa using hr
            rcases hr' with hr | rfl
            · have := h.rows r hr
              exact ⟨by show _ ≤ σ.pos + 2; omega, by show _ ≤ σ.groups + 1; omega⟩
            · have := h.number
              exact ⟨by show _ ≤ σ.pos + 2; omega, by show _ ≤ σ.groups + 1; omega⟩
      · split at hs
        · unfold closeT at hs
          rcases list_snoc σ.outer with ho | ⟨os, r, ho⟩
          · rw [ho] at hs; simp at hs
          · rw [ho] at hs
            simp only [List.getLast?_append, List.getLast?_singleton, Option.some_or, List.dropLast_concat, Prod.mk.injEq, true_and] at hs
            subst hs
            have hr := h.rows r (by rw [ho]; simp)
            have hol : os.length + 1 = σ.outer.length := by rw [ho]; simp
            refine ⟨⟨hp2, ?_, by show os.length ≤ σ.pos + 2; omega, h.groups, h.refs, hr.2, fun r' hr' => ?_⟩, by show σ.pos < σ.pos + 2; omega⟩
            · show (r.items ++ [_]).length ≤ σ.pos + 2
              simp; omega
            · have := h.rows r' (by rw [ho]; simp; exact .inl hr')
              exact ⟨by show _ ≤ σ.pos + 2; omega, this.2⟩
        · split at hs
          · unfold ivT at hs
            split at hs
            · simp at hs
            · rename_i hc
              split at hs
              · simp at hs
              · rename_i m n k hv
                have hbd := ivl_bd hv
                simp only [Prod.mk.injEq, true_and] at hs
                subst hs
                exact ⟨h.rep k m n (by simpa using hc) (by omega) (by omega), by show σ.pos < k; omega⟩
          · split at hs
            · unfold refT at hs
              split at hs
              · simp at hs
              · split at hs
                · simp only [Prod.mk.injEq, true_and] at hs
                  subst hs
                  exact h.add (itBack _) 2 (by omega) hp2
                · split at hs
                  · simp at hs
                  · simp only [Prod.mk.injEq, true_and] at hs
                    subst hs
                    obtain ⟨⟨i1, i2, i3, i4, i5, i6, i7⟩, i8⟩ := h.add (itBack _) 2 (by omega) hp2
                    exact ⟨⟨i1, i2, i3, i4, by show σ.refs + 1 ≤ 2; omega, i6, i7⟩, i8⟩
            · split at hs
              · simp only [Prod.mk.injEq, true_and] at hs
                subst hs
                exact h.add (itOne _) 2 (by omega) hp2
              · simp at hs
  · have hp1 : σ.pos + 1 ≤ l.length := by omega
    split at hs
    · unfold brkT at hs
      split at hs
      · rename_i he
        simp only [Prod.mk.injEq, true_and] at hs
        subst hs
        obtain ⟨e, q, hbk⟩ : ∃ e q, brk l σ.pos = (e, q) := ⟨_, _, rfl⟩
        have hbd := brk_bd hp hbk
        rw [hbk] at he ⊢
        simp only at he ⊢
        have hq := hbd.2.2 he
        refine ⟨⟨hbd.2.1, ?_, by show σ.outer.length ≤ q; omega, h.groups, h.refs, h.number, fun r hr => ?_⟩, hq⟩
        · show (σ.inner.items ++ [_]).length ≤ q
          simp; omega
        · have := h.rows r hr
          exact ⟨by show _ ≤ q; omega, this.2⟩
      · rename_i he
        simp only [Prod.mk.injEq] at hs
        exact absurd hs.1 he
    · split at hs
      · simp only [Prod.mk.injEq, true_and] at hs
        subst hs
        exact h.add (itOne _) 1 (by omega) hp1
      · split at hs
        · simp only [Prod.mk.injEq, true_and] at hs
          subst hs
          exact h.add itBeg 1 (by omega) hp1
        · split at hs
          · simp only [Prod.mk.injEq, true_and] at hs
            subst hs
            exact h.add itFin 1 (by omega) hp1
          · split at hs
            · rename_i hc
              simp only [Prod.mk.injEq, true_and] at hs
              subst hs
              exact ⟨h.rep (σ.pos + 1) 0 (-1) hc.2 (by omega) hp1, by show σ.pos < σ.pos + 1; omega⟩
            · simp only [Prod.mk.injEq, true_and] at hs
              subst hs
              exact h.add (itOne _) 1 (by omega) hp1

/-- STEP, of a reader. -/
theorem step_any {w : World} {base R : Nat} {s : ByteArray} {H : Fins} {σ : St} (h : Rd w base R s H σ) (hnm : NamesIn w) (hs : s.size ≤ 60) (hI : Inv s.data.toList σ) (hl : σ.pos < s.size) (c : Int) (hc : c = ch s.data.toList σ.pos) :
    Calls Tryd.prog 37 #[.pointer (some ⟨R, 0, none⟩), .int .u8 c] w fun e w' => e = .returned (.int .i64 (stepT s.data.toList σ).1) ∧ (∃ H', Rd w' base R s H' (stepT s.data.toList σ).2) ∧ Below R w w' := by
  have hB := hI.bd (by rw [len_data]; exact hs)
  have hc256 := ch_lt s.data.toList σ.pos
  have hct : c.toNat = ch s.data.toList σ.pos := by omega
  by_cases e92 : ch s.data.toList σ.pos = 92
  · have hz : stepT s.data.toList σ = escT s.data.toList σ := by unfold stepT; rw [if_pos e92]
    rw [hz]; exact step_esc h hs hB c (by omega)
  by_cases e91 : ch s.data.toList σ.pos = 91
  · have hz : stepT s.data.toList σ = brkT s.data.toList σ := by unfold stepT; rw [if_neg e92, if_pos e91]
    have hbd := brk_bd (l := s.data.toList) (start := σ.pos) (e := (brk s.data.toList σ.pos).1) (q := (brk s.data.toList σ.pos).2) (by rw [len_data]; exact hl) rfl
    rw [len_data] at hbd
    rw [hz]; exact step_brk h hnm hs hB c (by omega) hl (by omega) (by omega)
  by_cases e46 : ch s.data.toList σ.pos = 46
  · have hz : stepT s.data.toList σ = (0, addIt σ (itOne (addR noS 0 255)) 1) := by unfold stepT; rw [if_neg e92, if_neg e91, if_pos e46]
    rw [hz]; exact step_dot h hB c (by omega)
  by_cases e94 : ch s.data.toList σ.pos = 94
  · by_cases hit : σ.inner.items = []
    · have hz : stepT s.data.toList σ = (0, addIt σ itBeg 1) := by unfold stepT; rw [if_neg e92, if_neg e91, if_neg e46, if_pos ⟨e94, hit⟩]
      rw [hz]; exact step_hat h hB c (by omega) hit
    · have hz : stepT s.data.toList σ = (0, addIt σ (itOne (addS noS c.toNat)) 1) := by unfold stepT; rw [if_neg e92, if_neg e91, if_neg e46, if_neg (fun x => hit x.2), if_neg (by omega), if_neg (by omega), hct]
      rw [hz]; exact step_hat2 h hB c (by omega) hit
  by_cases e36 : ch s.data.toList σ.pos = 36
  · cases he : (decide (s.size ≤ σ.pos + 1) || sw s.data.toList (σ.pos + 1) [92, 41])
    · have hz : stepT s.data.toList σ = (0, addIt σ (itOne (addS noS c.toNat)) 1) := by unfold stepT; rw [if_neg e92, if_neg e91, if_neg e46, if_neg (by omega), if_neg (by rw [len_data, he]; simp), if_neg (by omega), hct]
      rw [hz]; exact step_end2 h hs hB c (by omega) he (by omega)
    · have hz : stepT s.data.toList σ = (0, addIt σ itFin 1) := by unfold stepT; rw [if_neg e92, if_neg e91, if_neg e46, if_neg (by omega), if_pos ⟨e36, by rw [len_data, he]⟩]
      rw [hz]; exact step_end h hs hB c (by omega) he (by omega)
  by_cases e42 : ch s.data.toList σ.pos = 42
  · cases hcb : canB σ.inner.items
    · have hz : stepT s.data.toList σ = (0, addIt σ (itOne (addS noS c.toNat)) 1) := by unfold stepT; rw [if_neg e92, if_neg e91, if_neg e46, if_neg (by omega), if_neg (by omega), if_neg (by rw [hcb]; simp), hct]
      rw [hz]; exact step_star2 h hB c (by omega) hcb
    · have hz : stepT s.data.toList σ = (0, { σ with pos := σ.pos + 1, inner := { σ.inner with items := repL σ.inner.items 0 (-1) } }) := by unfold stepT; rw [if_neg e92, if_neg e91, if_neg e46, if_neg (by omega), if_neg (by omega), if_pos ⟨e42, hcb⟩]
      rw [hz]; exact step_star h hB c (by omega) hcb
  have hz : stepT s.data.toList σ = (0, addIt σ (itOne (addS noS c.toNat)) 1) := by unfold stepT; rw [if_neg e92, if_neg e91, if_neg e46, if_neg (by omega), if_neg (by omega), if_neg (by omega), hct]
  rw [hz]; exact step_plain h hB c (by omega) (by omega) (by omega) (by omega) (by omega) (by omega) (by omega) (by omega)
end Go.Proofs.YtknckgibfbboaaaDoor
