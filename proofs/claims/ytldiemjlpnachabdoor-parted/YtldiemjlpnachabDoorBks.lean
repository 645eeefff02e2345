import Derived.Test.YtldiemjlpnachabDoorParse
import Derived.Test.YtldiemjlpnachabDoorNfa
/- References are to groups of the list alone. Nothing of the program. -/
namespace Go.Proofs.YtldiemjlpnachabDoor

structure BInv (σ : St) : Prop where
  inn : ∀ it ∈ σ.inner.items, bks σ.refl it.3
  out : ∀ r ∈ σ.outer, ∀ it ∈ r.items, bks σ.refl it.3
  nd : σ.refl.Nodup
theorem BInv.add {σ : St} (h : BInv σ) (it : It) (wd : Nat) (hit : bks σ.refl it.3) : BInv (addIt σ it wd) := by
  refine ⟨fun x hx => ?_, h.out, h.nd⟩
  have hx' : x ∈ σ.inner.items ++ [it] := hx
  rcases List.mem_append.1 hx' with hx | hx
  · exact h.inn x hx
  · simp at hx; subst hx; exact hit
theorem BInv.rep {σ : St} (h : BInv σ) (q : Nat) (a b : Int) (hc : canB σ.inner.items = true) : BInv { σ with pos := q, inner := { σ.inner with items := repL σ.inner.items a b } } := by
  refine ⟨fun x hx => ?_, h.out, h.nd⟩
  have hx' : x ∈ repL σ.inner.items a b := hx
  rcases list_snoc σ.inner.items with e | ⟨is, i, e⟩
  · rw [e] at hc; cases hc
  · rw [e, repL_snoc] at hx'
    rcases List.mem_append.1 hx' with hx | hx
    · exact h.inn x (by rw [e]; simp [hx])
    · simp at hx
      subst hx
      show bks σ.refl (.rep a b i.3)
      simp only [bks]
      exact h.inn i (by rw [e]; simp)
theorem stepT_binv {l : List UInt8} {σ σ' : St} (h : BInv σ) (hs : stepT l σ = (0, σ')) : BInv σ' := by
  unfold stepT at hs
  split at hs
  · unfold escT at hs
    split at hs
    · simp at hs
    · split at hs
      · unfold openT at hs
        split at hs
        · simp at hs
        · simp only [Prod.mk.injEq, true_and] at hs
          subst hs
          refine ⟨fun x hx => by simp at hx, fun r hr => ?_, h.nd⟩
          have hr' : r ∈ σ.outer ∨ r = σ.inner := by simpa using hr
          rcases hr' with hr | rfl
          · exact h.out r hr
          · exact h.inn
      · split at hs
        · unfold closeT at hs
          rcases list_snoc σ.outer with ho | ⟨os, r, ho⟩
          · rw [ho] at hs; simp at hs
          · rw [ho] at hs
            simp only [List.getLast?_append, List.getLast?_singleton, Option.some_or, List.dropLast_concat, Prod.mk.injEq, true_and] at hs
            subst hs
            refine ⟨fun x hx => ?_, fun r' hr' => h.out r' (by rw [ho]; simp; exact .inl hr'), h.nd⟩
            have hx' : x ∈ r.items ++ [itGrp σ.inner.number σ.inner.items] := hx
            rcases List.mem_append.1 hx' with hx | hx
            · exact h.out r (by rw [ho]; simp) x hx
            · simp at hx
              subst hx
              show bks σ.refl (.grp _ (σ.inner.items.map (·.3)))
              simp only [bks]
              rw [bkss_iff]
              intro t ht
              obtain ⟨z, hz, rfl⟩ := List.mem_map.1 ht
              exact h.inn z hz
        · split at hs
          · unfold ivT at hs
            split at hs
            · simp at hs
            · rename_i hc
              split at hs
              · simp at hs
              · simp only [Prod.mk.injEq, true_and] at hs
                subst hs
                exact h.rep _ _ _ (by simpa using hc)
          · split at hs
            · unfold refT at hs
              split at hs
              · simp at hs
              · split at hs
                · rename_i hr
                  simp only [Prod.mk.injEq, true_and] at hs
                  subst hs
                  refine h.add (itBack _) 2 ?_
                  show bks σ.refl (.back _)
                  simp only [bks]
                  simpa [St.referred] using hr
                · rename_i hr
                  split at hs
                  · simp at hs
                  · simp only [Prod.mk.injEq, true_and] at hs
                    subst hs
                    refine ⟨fun x hx => ?_, fun r hr' x hx => bks_mono (fun n hn => List.mem_append.2 (.inl hn)) _ (h.out r hr' x hx), ?_⟩
                    · rcases List.mem_append.1 hx with hx | hx
                      · exact bks_mono (fun n hn => List.mem_append.2 (.inl hn)) _ (h.inn x hx)
                      · simp at hx
                        subst hx
                        show bks (σ.refl ++ [_]) (.back _)
                        simp only [bks]
                        simp
                    · show (σ.refl ++ [_]).Nodup
                      rw [List.nodup_append]
                      refine ⟨h.nd, by simp, fun a ha b hb => ?_⟩
                      simp at hb
                      subst hb
                      rintro rfl
                      exact hr (by simpa [St.referred] using ha)
            · split at hs
              · simp only [Prod.mk.injEq, true_and] at hs
                subst hs
                exact h.add (itOne _) 2 (by simp only [bks])
              · simp at hs
  · split at hs
    · unfold brkT at hs
      split at hs
      · simp only [Prod.mk.injEq, true_and] at hs
        subst hs
        refine ⟨fun x hx => ?_, h.out, h.nd⟩
        rcases List.mem_append.1 hx with hx | hx
        · exact h.inn x hx
        · simp at hx
          subst hx
          simp only [bks]
      · rename_i he
        simp only [Prod.mk.injEq] at hs
        exact absurd hs.1 he
    · split at hs
      · simp only [Prod.mk.injEq, true_and] at hs
        subst hs
        exact h.add (itOne _) 1 (by simp only [bks])
      · split at hs
        · simp only [Prod.mk.injEq, true_and] at hs
          subst hs
          exact h.add itBeg 1 (by simp only [bks])
        · split at hs
          · simp only [Prod.mk.injEq, true_and] at hs
            subst hs
            exact h.add itFin 1 (by simp only [bks])
          · split at hs
            · rename_i hc
              simp only [Prod.mk.injEq, true_and] at hs
              subst hs
              exact h.rep _ _ _ hc.2
            · simp only [Prod.mk.injEq, true_and] at hs
              subst hs
              exact h.add (itOne _) 1 (by simp only [bks])
theorem goT_binv {l : List UInt8} : ∀ (f : Nat) {σ : St}, BInv σ → Inv l σ → (goT l f σ).1 = 0 → BInv (goT l f σ).2 ∧ Inv l (goT l f σ).2
  | 0, _, h, hi, _ => ⟨h, hi⟩
  | f + 1, σ, h, hi, he => by
    by_cases hp : σ.pos < l.length
    · obtain ⟨e, σ', hst⟩ : ∃ e σ', stepT l σ = (e, σ') := ⟨_, _, rfl⟩
      by_cases h0 : e = 0
      · subst h0
        rw [goT_more hp hst] at he ⊢
        exact goT_binv f (stepT_binv h hst) (stepT_inv hi hp hst).1 he
      · rw [goT_err hp (by rw [hst]; exact h0), hst] at he
        exact absurd he h0
    · rw [goT_out hp]
      exact ⟨h, hi⟩
theorem parseR_go {l : List UInt8} {r : Nat × St} (h : (parseR l r).1 = 0) : r.1 = 0 := by
  unfold parseR at h
  split at h
  · simp at h
  · split at h
    · simp at h
    · split at h
      · rename_i h1; exact absurd h h1
      · rename_i h1; omega
/-- the references of a pattern's tree -/
theorem refs_T {l : List UInt8} (h : (parseT l).1 = 0) : bkss (refT0 l) ((itsT l).map (·.3)) ∧ (refT0 l).length ≤ 2 ∧ (refT0 l).Nodup := by
  have hg := parseR_go (r := goT l 61 st0) h
  have hb := goT_binv (l := l) 61 (σ := st0) ⟨fun x hx => by simp [st0] at hx, fun r hr => by simp [st0] at hr, by simp [st0]⟩ (inv0 l) hg
  have e : refT0 l = (goT l 61 st0).2.refl := by
    unfold refT0 refR
    exact if_pos h
  rw [e]
  refine ⟨?_, hb.2.refs, hb.1.nd⟩
  rw [bkss_iff]
  intro t ht
  obtain ⟨z, hz, rfl⟩ := List.mem_map.1 ht
  exact hb.1.inn z hz
end Go.Proofs.YtldiemjlpnachabDoor
