import Derived.Test.YtknckgibfbboaaaDoorBrac
namespace Go.Proofs.YtknckgibfbboaaaDoor
open Go.RowKit

/-- the last item, repeated -/
def repL (its : List It) (l m : Int) : List It := its.dropLast ++ [itRep l m (its.getLast?.getD itBeg)]
theorem repL_snoc (is : List It) (i : It) (l m : Int) : repL (is ++ [i]) l m = is ++ [itRep l m i] := by simp [repL]
def addIt (σ : St) (it : It) (wd : Nat) : St := { σ with pos := σ.pos + wd, inner := { σ.inner with items := σ.inner.items ++ [it] } }
def ivT (l : List UInt8) (σ : St) : Nat × St :=
  if canB σ.inner.items = false then (7, σ)
  else match ivl l (σ.pos + 2) with
    | none => (7, σ)
    | some (m, n, k) => (0, { σ with pos := k, inner := { σ.inner with items := repL σ.inner.items m n } })
def openT (σ : St) : Nat × St :=
  if 9 ≤ σ.groups then (9, σ) else (0, { σ with pos := σ.pos + 2, inner := ⟨σ.groups + 1, σ.pos, []⟩, outer := σ.outer ++ [σ.inner], groups := σ.groups + 1 })
def closeT (σ : St) : Nat × St :=
  match σ.outer.getLast? with
  | none => (8, σ)
  | some r => (0, { σ with pos := σ.pos + 2, inner := { r with items := r.items ++ [itGrp σ.inner.number σ.inner.items] }, outer := σ.outer.dropLast, closed := fun i => if i = σ.inner.number then true else σ.closed i })
def escT (l : List UInt8) (σ : St) : Nat × St :=
  if l.length ≤ σ.pos + 1 then (3, σ)
  else if ch l (σ.pos + 1) = 40 then openT σ
  else if ch l (σ.pos + 1) = 41 then closeT σ
  else if ch l (σ.pos + 1) = 123 then ivT l σ
  else if 49 ≤ ch l (σ.pos + 1) ∧ ch l (σ.pos + 1) ≤ 57 then refT σ (ch l (σ.pos + 1) - 48)
  else if ch l (σ.pos + 1) ∈ [46, 91, 93, 42, 94, 36, 92] then (0, addIt σ (itOne (addS noS (ch l (σ.pos + 1)))) 2)
  else (3, σ)

theorem readInterval_some (s : ByteArray) (i : Int) (a : Nat) (m n : Int) (k : Nat) (w : World) (hia : i = a) (hr : ivl s.data.toList a = some (m, n, k)) (hs : s.size ≤ 1000) (h1 : a ≤ 2000) :
    Calls Tryd.prog 73 #[.string s, .int .i64 i] w fun e w' => e = .returned (.tuple #[.int .i64 m, .int .i64 n, .int .i64 k, .bool true]) ∧ w' = w := by
  subst hia
  have := readInterval_any s a w hs (by omega) (by omega)
  rw [Int.toNat_natCast, hr] at this
  exact this
theorem readInterval_none (s : ByteArray) (i : Int) (a : Nat) (w : World) (hia : i = a) (hr : ivl s.data.toList a = none) (hs : s.size ≤ 1000) (h1 : a ≤ 2000) :
    Calls Tryd.prog 73 #[.string s, .int .i64 i] w fun e w' => e = .returned (.tuple #[.int .i64 0, .int .i64 0, .int .i64 0, .bool false]) ∧ w' = w := by
  subst hia
  have := readInterval_any s a w hs (by omega) (by omega)
  rw [Int.toNat_natCast, hr] at this
  exact this
theorem below_drewN (B : Nat) (w : World) (n : Nat) : Below B w (w.drewN n) := ⟨rfl, rfl, rfl, Nat.le_refl _, fun _ _ => rfl⟩
theorem Rd.drewN {w : World} {base R n : Nat} {s : ByteArray} {H : Fins} {σ : St} (h : Rd w base R s H σ) : Rd (w.drewN n) base R s H σ := h.below (below_drewN _ _ _)
theorem canRepeat_b {w : World} {base R : Nat} {s : ByteArray} {H : Fins} {σ : St} (b : Bool) (hb : canB σ.inner.items = b) (h : Rd w base R s H σ) (hn : σ.inner.items.length ≤ 1000) :
    Calls Tryd.prog 53 #[.pointer (some ⟨R, 0, none⟩)] w fun e w' => e = .returned (.bool b) ∧ w' = w := by
  subst hb
  exact canRepeat_any h hn

set_option maxRecDepth 100000 in
set_option maxHeartbeats 1600000 in
theorem interval_rd {w : World} {base R : Nat} {s : ByteArray} {H : Fins} {σ : St} (h : Rd w base R s H σ) (hs : s.size ≤ 60) (hp : σ.pos ≤ 1000) (hi : σ.inner.items.length ≤ 1000) :
    Calls Tryd.prog 64 #[.pointer (some ⟨R, 0, none⟩)] w fun e w' => e = .returned (.int .i64 (ivT s.data.toList σ).1) ∧ (∃ H', Rd w' base R s H' (ivT s.data.toList σ).2) ∧ Below R w w' := by
  have c0 := h.c0
  have c1 := h.c1
  have w2' := wrapI ((σ.pos : Int) + 2) (by omega) (by omega)
  cases hc : canB σ.inner.items
  · have Hz : Hid (ivT s.data.toList σ = (7, σ)) := by unfold ivT; rw [if_pos hc]; exact hd rfl
    have Hc := hd hc
    clear hc
    go_enter Tryd.func64, Tryd.ntmps64
    go_wp2_with (go_at_call 53; refine (canRepeat_b false Hc.out (by exact h) hi).mono ?_; rintro e w' ⟨rfl, rfl⟩)
    go_ret
    rw [Hz.out]
    exact ⟨rfl, ⟨H, h⟩, Below.refl _ _⟩
  · have Hc := hd hc
    cases hv : ivl s.data.toList (σ.pos + 2) with
    | none =>
      have Hz : Hid (ivT s.data.toList σ = (7, σ)) := by unfold ivT; rw [if_neg (by simp [hc]), hv]; exact hd rfl
      have Hv := hd hv
      clear hc hv
      go_enter Tryd.func64, Tryd.ntmps64
      go_wp2_with (go_at_call 53; refine (canRepeat_b true Hc.out (by exact h) hi).mono ?_; rintro e w' ⟨rfl, rfl⟩)
      go_quiet ((go_at_call 73; exact Calls.quiet_of_same (readInterval_none s _ (σ.pos + 2) _ (by omega) Hv.out (by omega) (by omega))))
      go_wp2
      go_ret
      rw [Hz.out]
      exact ⟨rfl, ⟨H, h.drewN⟩, below_drewN _ _ _⟩
    | some t =>
      obtain ⟨m, n, k⟩ := t
      have hbd := ivl_bd hv
      have hlm := ivl_le hv
      rw [len_data] at hbd
      have Hz : Hid (ivT s.data.toList σ = (0, { σ with pos := k, inner := { σ.inner with items := repL σ.inner.items m n } })) := by unfold ivT; rw [if_neg (by simp [hc]), hv]; exact hd rfl
      have Hv := hd hv
      obtain ⟨is, it, hit⟩ : ∃ is it, σ.inner.items = is ++ [it] := by
        rcases list_snoc σ.inner.items with e | e
        · rw [e] at hc; cases hc
        · exact e
      have hil : is.length ≤ 1000 := by rw [hit] at hi; simp at hi; omega
      have Hit := hd hit
      clear hc hv hit
      go_enter Tryd.func64, Tryd.ntmps64
      go_wp2_with (go_at_call 53; refine (canRepeat_b true Hc.out (by exact h) hi).mono ?_; rintro e w' ⟨rfl, rfl⟩)
      go_quiet ((go_at_call 73; exact Calls.quiet_of_same (readInterval_some s _ (σ.pos + 2) m n k _ (by omega) Hv.out (by omega) (by omega))))
      go_wp2_with fail
      refine (repeat_rd (by exact h.drewN) is it Hit.out m n (by omega) (by omega) (by omega) hil).mono ?_
      rintro e w2 ⟨rfl, H', hrd, hbw⟩
      have d1 := hrd.c1
      have g1 := hrd.fz 1 (by omega)
      have HR := hd (hrd.moved k)
      have HW := hd hbw
      clear hrd hbw c0 c1
      go_wp2
      go_ret
      rw [Hz.out]
      refine ⟨rfl, ⟨H', ?_⟩, (below_drewN _ _ _).trans (HW.out.trans HR.out.2)⟩
      have := HR.out.1
      rw [Hit.out, repL_snoc]
      exact this
end Go.Proofs.YtknckgibfbboaaaDoor
