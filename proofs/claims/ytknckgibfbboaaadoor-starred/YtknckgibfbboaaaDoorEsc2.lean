import Derived.Test.YtknckgibfbboaaaDoorEsc
namespace Go.Proofs.YtknckgibfbboaaaDoor
open Go.RowKit

theorem reference_at {w : World} {base R : Nat} {s : ByteArray} {H : Fins} {σ : St} (h : Rd w base R s H σ) (i : Int) (n : Nat) (hin : i = n) (hn1 : 1 ≤ n) (hn9 : n ≤ 9) (hp : σ.pos ≤ 1000) (hi : σ.inner.items.length ≤ 1000) (hrf : σ.refs ≤ 2) :
    Calls Tryd.prog 65 #[.pointer (some ⟨R, 0, none⟩), .int .i64 i] w fun e w' => e = .returned (.int .i64 (refT σ n).1) ∧ Rd w' base R s H (refT σ n).2 ∧ Below R w w' := by
  subst hin
  exact reference_rd h n hn1 hn9 hp hi hrf
theorem openGroup_T {w : World} {base R : Nat} {s : ByteArray} {H : Fins} {σ : St} (h : Rd w base R s H σ) (hp : σ.pos ≤ 1000) (hn : σ.outer.length ≤ 1000) (hgr : σ.groups ≤ 9) :
    Calls Tryd.prog 62 #[.pointer (some ⟨R, 0, none⟩)] w fun e w' => e = .returned (.int .i64 (openT σ).1) ∧ (∃ H', Rd w' base R s H' (openT σ).2) ∧ Below R w w' := by
  by_cases h9 : 9 ≤ σ.groups
  · have hz : openT σ = (9, σ) := by unfold openT; rw [if_pos h9]
    rw [hz]
    refine (openGroup_no h.c6 h9 (by omega)).mono ?_
    rintro e w' ⟨rfl, rfl⟩
    exact ⟨rfl, ⟨H, h⟩, Below.refl _ _⟩
  · have hz : openT σ = (0, { σ with pos := σ.pos + 2, inner := ⟨σ.groups + 1, σ.pos, []⟩, outer := σ.outer ++ [σ.inner], groups := σ.groups + 1 }) := by unfold openT; rw [if_neg h9]
    rw [hz]
    refine (openGroup_rd h hp hn (by omega)).mono ?_
    rintro e w' ⟨rfl, hr, hb⟩
    exact ⟨rfl, ⟨H, hr⟩, hb⟩
theorem closeGroup_T {w : World} {base R : Nat} {s : ByteArray} {H : Fins} {σ : St} (h : Rd w base R s H σ) (hp : σ.pos ≤ 1000) (hn : σ.outer.length ≤ 1000) (hin : σ.inner.items.length ≤ 1000) (hrn : ∀ r ∈ σ.outer, r.items.length ≤ 1000) (hnum : σ.inner.number ≤ 9) :
    Calls Tryd.prog 63 #[.pointer (some ⟨R, 0, none⟩)] w fun e w' => e = .returned (.int .i64 (closeT σ).1) ∧ (∃ H', Rd w' base R s H' (closeT σ).2) ∧ Below R w w' := by
  rcases list_snoc σ.outer with ho | ⟨os, r, ho⟩
  · have hz : closeT σ = (8, σ) := by unfold closeT; rw [ho]; rfl
    rw [hz]
    obtain ⟨vi, vo, rs, _, h5, _, hown, _, _⟩ := h.rows
    rw [ho] at hown
    have hvo : ∃ ao cp, vo = .slice ao 0 cp := by
      rcases hown.2 with ⟨rfl, _⟩ | ⟨g, cap, _, rfl, _⟩
      · exact ⟨none, 0, rfl⟩
      · exact ⟨_, _, rfl⟩
    obtain ⟨ao, cp, rfl⟩ := hvo
    refine (closeGroup_no h5).mono ?_
    rintro e w' ⟨rfl, rfl⟩
    exact ⟨rfl, ⟨H, h⟩, Below.refl _ _⟩
  · have hz : closeT σ = (0, { σ with pos := σ.pos + 2, inner := { r with items := r.items ++ [itGrp σ.inner.number σ.inner.items] }, outer := os, closed := fun i => if i = σ.inner.number then true else σ.closed i }) := by unfold closeT; rw [ho]; simp
    rw [hz]
    refine (closeGroup_rd h os r ho hp (by rw [ho] at hn; simp at hn; omega) hin (hrn r (by rw [ho]; simp)) hnum).mono ?_
    rintro e w' ⟨rfl, H', hr, hb⟩
    exact ⟨rfl, ⟨H', hr⟩, hb⟩

/-- what the state is bounded by -/
def Bd (σ : St) : Prop := σ.pos ≤ 1000 ∧ σ.inner.items.length ≤ 1000 ∧ σ.outer.length ≤ 1000 ∧ σ.groups ≤ 9 ∧ σ.refs ≤ 2 ∧ σ.inner.number ≤ 9 ∧ ∀ r ∈ σ.outer, r.items.length ≤ 1000

set_option maxRecDepth 100000 in
set_option maxHeartbeats 1600000 in
theorem escape_end {w : World} {base R : Nat} {s : ByteArray} {H : Fins} {σ : St} (h : Rd w base R s H σ) (hB : Bd σ) (hl : s.size ≤ σ.pos + 1) :
    Calls Tryd.prog 48 #[.pointer (some ⟨R, 0, none⟩)] w fun e w' => e = .returned (.int .i64 (escT s.data.toList σ).1) ∧ (∃ H', Rd w' base R s H' (escT s.data.toList σ).2) ∧ Below R w w' := by
  have Hz : Hid (escT s.data.toList σ = (3, σ)) := by unfold escT; rw [if_pos (by rw [len_data]; exact hl)]; exact hd rfl
  have hp := hB.1
  have c0 := h.c0
  have c1 := h.c1
  have w1' := wrapI ((σ.pos : Int) + 1) (by omega) (by omega)
  have hlI : (s.size : Int) ≤ (σ.pos : Int) + 1 := by omega
  have hlB : decide ((s.size : Int) ≤ (σ.pos : Int) + 1) = true := by simpa using hlI
  have HB := hd hB
  clear hB
  go_enter Tryd.func48, Tryd.ntmps48
  go_wp2
  go_quiet (fail)
  go_wp2
  go_ret
  rw [Hz.out]
  exact ⟨rfl, ⟨H, h.drewN⟩, below_drewN _ _ _⟩

set_option maxRecDepth 100000 in
set_option maxHeartbeats 1600000 in
theorem escape_open {w : World} {base R : Nat} {s : ByteArray} {H : Fins} {σ : St} (h : Rd w base R s H σ) (hB : Bd σ) (hl : σ.pos + 1 < s.size) (hc : (s[σ.pos + 1].toNat : Int) = 40) :
    Calls Tryd.prog 48 #[.pointer (some ⟨R, 0, none⟩)] w fun e w' => e = .returned (.int .i64 (openT σ).1) ∧ (∃ H', Rd w' base R s H' (openT σ).2) ∧ Below R w w' := by
  have hp := hB.1
  have c0 := h.c0
  have c1 := h.c1
  have w1' := wrapI ((σ.pos : Int) + 1) (by omega) (by omega)
  have q0 : (0 : Int) ≤ (σ.pos : Int) + 1 := by omega
  have q1 : (σ.pos : Int) + 1 < (s.size : Int) := by omega
  have hlB : decide ((s.size : Int) ≤ (σ.pos : Int) + 1) = false := by simp; omega
  have htn : ((σ.pos : Int) + 1).toNat = σ.pos + 1 := by omega
  have HB := hd hB
  clear hB
  go_enter Tryd.func48, Tryd.ntmps48
  go_wp2
  go_quiet (fail)
  go_wp2
  go_quiet (fail)
  go_wp2_with fail
  refine (openGroup_T (by exact h.drewN) hp HB.out.2.2.1 HB.out.2.2.2.1).mono ?_
  rintro e w2 ⟨rfl, hr, hbw⟩
  have HR := hd hr
  have HW := hd hbw
  clear hr hbw
  go_wp2
  go_ret
  exact ⟨rfl, HR.out, (below_drewN _ _ _).trans HW.out⟩

set_option maxRecDepth 100000 in
set_option maxHeartbeats 1600000 in
theorem escape_close {w : World} {base R : Nat} {s : ByteArray} {H : Fins} {σ : St} (h : Rd w base R s H σ) (hB : Bd σ) (hl : σ.pos + 1 < s.size) (hc : (s[σ.pos + 1].toNat : Int) = 41) :
    Calls Tryd.prog 48 #[.pointer (some ⟨R, 0, none⟩)] w fun e w' => e = .returned (.int .i64 (closeT σ).1) ∧ (∃ H', Rd w' base R s H' (closeT σ).2) ∧ Below R w w' := by
  have hp := hB.1
  have c0 := h.c0
  have c1 := h.c1
  have w1' := wrapI ((σ.pos : Int) + 1) (by omega) (by omega)
  have q0 : (0 : Int) ≤ (σ.pos : Int) + 1 := by omega
  have q1 : (σ.pos : Int) + 1 < (s.size : Int) := by omega
  have hlB : decide ((s.size : Int) ≤ (σ.pos : Int) + 1) = false := by simp; omega
  have htn : ((σ.pos : Int) + 1).toNat = σ.pos + 1 := by omega
  have HB := hd hB
  clear hB
  go_enter Tryd.func48, Tryd.ntmps48
  go_wp2
  go_quiet (fail)
  go_wp2
  go_quiet (fail)
  go_wp2_with fail
  refine (closeGroup_T (by exact h.drewN) hp HB.out.2.2.1 HB.out.2.1 HB.out.2.2.2.2.2.2 HB.out.2.2.2.2.2.1).mono ?_
  rintro e w2 ⟨rfl, hr, hbw⟩
  have HR := hd hr
  have HW := hd hbw
  clear hr hbw
  go_wp2
  go_ret
  exact ⟨rfl, HR.out, (below_drewN _ _ _).trans HW.out⟩

set_option maxRecDepth 100000 in
set_option maxHeartbeats 1600000 in
theorem escape_ivl {w : World} {base R : Nat} {s : ByteArray} {H : Fins} {σ : St} (h : Rd w base R s H σ) (hs : s.size ≤ 60) (hB : Bd σ) (hl : σ.pos + 1 < s.size) (hc : (s[σ.pos + 1].toNat : Int) = 123) :
    Calls Tryd.prog 48 #[.pointer (some ⟨R, 0, none⟩)] w fun e w' => e = .returned (.int .i64 (ivT s.data.toList σ).1) ∧ (∃ H', Rd w' base R s H' (ivT s.data.toList σ).2) ∧ Below R w w' := by
  have hp := hB.1
  have c0 := h.c0
  have c1 := h.c1
  have w1' := wrapI ((σ.pos : Int) + 1) (by omega) (by omega)
  have q0 : (0 : Int) ≤ (σ.pos : Int) + 1 := by omega
  have q1 : (σ.pos : Int) + 1 < (s.size : Int) := by omega
  have hlB : decide ((s.size : Int) ≤ (σ.pos : Int) + 1) = false := by simp; omega
  have htn : ((σ.pos : Int) + 1).toNat = σ.pos + 1 := by omega
  have HB := hd hB
  clear hB
  go_enter Tryd.func48, Tryd.ntmps48
  go_wp2
  go_quiet (fail)
  go_wp2
  go_quiet (fail)
  go_wp2_with fail
  refine (interval_rd (by exact h.drewN) hs hp HB.out.2.1).mono ?_
  rintro e w2 ⟨rfl, hr, hbw⟩
  have HR := hd hr
  have HW := hd hbw
  clear hr hbw
  go_wp2
  go_ret
  exact ⟨rfl, HR.out, (below_drewN _ _ _).trans HW.out⟩

set_option maxRecDepth 100000 in
set_option maxHeartbeats 1600000 in
theorem escape_ref1 {w : World} {base R : Nat} {s : ByteArray} {H : Fins} {σ : St} (h : Rd w base R s H σ) (hB : Bd σ) (hl : σ.pos + 1 < s.size) (hc : (s[σ.pos + 1].toNat : Int) = 49) :
    Calls Tryd.prog 48 #[.pointer (some ⟨R, 0, none⟩)] w fun e w' => e = .returned (.int .i64 (refT σ 1).1) ∧ (∃ H', Rd w' base R s H' (refT σ 1).2) ∧ Below R w w' := by
  have hp := hB.1
  have c0 := h.c0
  have c1 := h.c1
  have w1' := wrapI ((σ.pos : Int) + 1) (by omega) (by omega)
  have q0 : (0 : Int) ≤ (σ.pos : Int) + 1 := by omega
  have q1 : (σ.pos : Int) + 1 < (s.size : Int) := by omega
  have hlB : decide ((s.size : Int) ≤ (σ.pos : Int) + 1) = false := by simp; omega
  have htn : ((σ.pos : Int) + 1).toNat = σ.pos + 1 := by omega
  have HB := hd hB
  clear hB
  go_enter Tryd.func48, Tryd.ntmps48
  go_wp2
  go_quiet (fail)
  go_wp2
  go_quiet (fail)
  go_wp2_with fail
  refine (reference_at (by exact h.drewN) _ 1 (by rfl) (by omega) (by omega) hp HB.out.2.1 HB.out.2.2.2.2.1).mono ?_
  rintro e w2 ⟨rfl, hr, hbw⟩
  have HR := hd hr
  have HW := hd hbw
  clear hr hbw
  go_wp2
  go_ret
  exact ⟨rfl, ⟨H, HR.out⟩, (below_drewN _ _ _).trans HW.out⟩

set_option maxRecDepth 100000 in
set_option maxHeartbeats 1600000 in
theorem escape_ref2 {w : World} {base R : Nat} {s : ByteArray} {H : Fins} {σ : St} (h : Rd w base R s H σ) (hB : Bd σ) (hl : σ.pos + 1 < s.size) (hc : (s[σ.pos + 1].toNat : Int) = 50) :
    Calls Tryd.prog 48 #[.pointer (some ⟨R, 0, none⟩)] w fun e w' => e = .returned (.int .i64 (refT σ 2).1) ∧ (∃ H', Rd w' base R s H' (refT σ 2).2) ∧ Below R w w' := by
  have hp := hB.1
  have c0 := h.c0
  have c1 := h.c1
  have w1' := wrapI ((σ.pos : Int) + 1) (by omega) (by omega)
  have q0 : (0 : Int) ≤ (σ.pos : Int) + 1 := by omega
  have q1 : (σ.pos : Int) + 1 < (s.size : Int) := by omega
  have hlB : decide ((s.size : Int) ≤ (σ.pos : Int) + 1) = false := by simp; omega
  have htn : ((σ.pos : Int) + 1).toNat = σ.pos + 1 := by omega
  have HB := hd hB
  clear hB
  go_enter Tryd.func48, Tryd.ntmps48
  go_wp2
  go_quiet (fail)
  go_wp2
  go_quiet (fail)
  go_wp2_with fail
  refine (reference_at (by exact h.drewN) _ 2 (by rfl) (by omega) (by omega) hp HB.out.2.1 HB.out.2.2.2.2.1).mono ?_
  rintro e w2 ⟨rfl, hr, hbw⟩
  have HR := hd hr
  have HW := hd hbw
  clear hr hbw
  go_wp2
  go_ret
  exact ⟨rfl, ⟨H, HR.out⟩, (below_drewN _ _ _).trans HW.out⟩

set_option maxRecDepth 100000 in
set_option maxHeartbeats 1600000 in
theorem escape_ref3 {w : World} {base R : Nat} {s : ByteArray} {H : Fins} {σ : St} (h : Rd w base R s H σ) (hB : Bd σ) (hl : σ.pos + 1 < s.size) (hc : (s[σ.pos + 1].toNat : Int) = 51) :
    Calls Tryd.prog 48 #[.pointer (some ⟨R, 0, none⟩)] w fun e w' => e = .returned (.int .i64 (refT σ 3).1) ∧ (∃ H', Rd w' base R s H' (refT σ 3).2) ∧ Below R w w' := by
  have hp := hB.1
  have c0 := h.c0
  have c1 := h.c1
  have w1' := wrapI ((σ.pos : Int) + 1) (by omega) (by omega)
  have q0 : (0 : Int) ≤ (σ.pos : Int) + 1 := by omega
  have q1 : (σ.pos : Int) + 1 < (s.size : Int) := by omega
  have hlB : decide ((s.size : Int) ≤ (σ.pos : Int) + 1) = false := by simp; omega
  have htn : ((σ.pos : Int) + 1).toNat = σ.pos + 1 := by omega
  have HB := hd hB
  clear hB
  go_enter Tryd.func48, Tryd.ntmps48
  go_wp2
  go_quiet (fail)
  go_wp2
  go_quiet (fail)
  go_wp2_with fail
  refine (reference_at (by exact h.drewN) _ 3 (by rfl) (by omega) (by omega) hp HB.out.2.1 HB.out.2.2.2.2.1).mono ?_
  rintro e w2 ⟨rfl, hr, hbw⟩
  have HR := hd hr
  have HW := hd hbw
  clear hr hbw
  go_wp2
  go_ret
  exact ⟨rfl, ⟨H, HR.out⟩, (below_drewN _ _ _).trans HW.out⟩

set_option maxRecDepth 100000 in
set_option maxHeartbeats 1600000 in
theorem escape_ref4 {w : World} {base R : Nat} {s : ByteArray} {H : Fins} {σ : St} (h : Rd w base R s H σ) (hB : Bd σ) (hl : σ.pos + 1 < s.size) (hc : (s[σ.pos + 1].toNat : Int) = 52) :
    Calls Tryd.prog 48 #[.pointer (some ⟨R, 0, none⟩)] w fun e w' => e = .returned (.int .i64 (refT σ 4).1) ∧ (∃ H', Rd w' base R s H' (refT σ 4).2) ∧ Below R w w' := by
  have hp := hB.1
  have c0 := h.c0
  have c1 := h.c1
  have w1' := wrapI ((σ.pos : Int) + 1) (by omega) (by omega)
  have q0 : (0 : Int) ≤ (σ.pos : Int) + 1 := by omega
  have q1 : (σ.pos : Int) + 1 < (s.size : Int) := by omega
  have hlB : decide ((s.size : Int) ≤ (σ.pos : Int) + 1) = false := by simp; omega
  have htn : ((σ.pos : Int) + 1).toNat = σ.pos + 1 := by omega
  have HB := hd hB
  clear hB
  go_enter Tryd.func48, Tryd.ntmps48
  go_wp2
  go_quiet (fail)
  go_wp2
  go_quiet (fail)
  go_wp2_with fail
  refine (reference_at (by exact h.drewN) _ 4 (by rfl) (by omega) (by omega) hp HB.out.2.1 HB.out.2.2.2.2.1).mono ?_
  rintro e w2 ⟨rfl, hr, hbw⟩
  have HR := hd hr
  have HW := hd hbw
  clear hr hbw
  go_wp2
  go_ret
  exact ⟨rfl, ⟨H, HR.out⟩, (below_drewN _ _ _).trans HW.out⟩

set_option maxRecDepth 100000 in
set_option maxHeartbeats 1600000 in
theorem escape_ref5 {w : World} {base R : Nat} {s : ByteArray} {H : Fins} {σ : St} (h : Rd w base R s H σ) (hB : Bd σ) (hl : σ.pos + 1 < s.size) (hc : (s[σ.pos + 1].toNat : Int) = 53) :
    Calls Tryd.prog 48 #[.pointer (some ⟨R, 0, none⟩)] w fun e w' => e = .returned (.int .i64 (refT σ 5).1) ∧ (∃ H', Rd w' base R s H' (refT σ 5).2) ∧ Below R w w' := by
  have hp := hB.1
  have c0 := h.c0
  have c1 := h.c1
  have w1' := wrapI ((σ.pos : Int) + 1) (by omega) (by omega)
  have q0 : (0 : Int) ≤ (σ.pos : Int) + 1 := by omega
  have q1 : (σ.pos : Int) + 1 < (s.size : Int) := by omega
  have hlB : decide ((s.size : Int) ≤ (σ.pos : Int) + 1) = false := by simp; omega
  have htn : ((σ.pos : Int) + 1).toNat = σ.pos + 1 := by omega
  have HB := hd hB
  clear hB
  go_enter Tryd.func48, Tryd.ntmps48
  go_wp2
  go_quiet (fail)
  go_wp2
  go_quiet (fail)
  go_wp2_with fail
  refine (reference_at (by exact h.drewN) _ 5 (by rfl) (by omega) (by omega) hp HB.out.2.1 HB.out.2.2.2.2.1).mono ?_
  rintro e w2 ⟨rfl, hr, hbw⟩
  have HR := hd hr
  have HW := hd hbw
  clear hr hbw
  go_wp2
  go_ret
  exact ⟨rfl, ⟨H, HR.out⟩, (below_drewN _ _ _).trans HW.out⟩

set_option maxRecDepth 100000 in
set_option maxHeartbeats 1600000 in
theorem escape_ref6 {w : World} {base R : Nat} {s : ByteArray} {H : Fins} {σ : St} (h : Rd w base R s H σ) (hB : Bd σ) (hl : σ.pos + 1 < s.size) (hc : (s[σ.pos + 1].toNat : Int) = 54) :
    Calls Tryd.prog 48 #[.pointer (some ⟨R, 0, none⟩)] w fun e w' => e = .returned (.int .i64 (refT σ 6).1) ∧ (∃ H', Rd w' base R s H' (refT σ 6).2) ∧ Below R w w' := by
  have hp := hB.1
  have c0 := h.c0
  have c1 := h.c1
  have w1' := wrapI ((σ.pos : Int) + 1) (by omega) (by omega)
  have q0 : (0 : Int) ≤ (σ.pos : Int) + 1 := by omega
  have q1 : (σ.pos : Int) + 1 < (s.size : Int) := by omega
  have hlB : decide ((s.size : Int) ≤ (σ.pos : Int) + 1) = false := by simp; omega
  have htn : ((σ.pos : Int) + 1).toNat = σ.pos + 1 := by omega
  have HB := hd hB
  clear hB
  go_enter Tryd.func48, Tryd.ntmps48
  go_wp2
  go_quiet (fail)
  go_wp2
  go_quiet (fail)
  go_wp2_with fail
  refine (reference_at (by exact h.drewN) _ 6 (by rfl) (by omega) (by omega) hp HB.out.2.1 HB.out.2.2.2.2.1).mono ?_
  rintro e w2 ⟨rfl, hr, hbw⟩
  have HR := hd hr
  have HW := hd hbw
  clear hr hbw
  go_wp2
  go_ret
  exact ⟨rfl, ⟨H, HR.out⟩, (below_drewN _ _ _).trans HW.out⟩

set_option maxRecDepth 100000 in
set_option maxHeartbeats 1600000 in
theorem escape_ref7 {w : World} {base R : Nat} {s : ByteArray} {H : Fins} {σ : St} (h : Rd w base R s H σ) (hB : Bd σ) (hl : σ.pos + 1 < s.size) (hc : (s[σ.pos + 1].toNat : Int) = 55) :
    Calls Tryd.prog 48 #[.pointer (some ⟨R, 0, none⟩)] w fun e w' => e = .returned (.int .i64 (refT σ 7).1) ∧ (∃ H', Rd w' base R s H' (refT σ 7).2) ∧ Below R w w' := by
  have hp := hB.1
  have c0 := h.c0
  have c1 := h.c1
  have w1' := wrapI ((σ.pos : Int) + 1) (by omega) (by omega)
  have q0 : (0 : Int) ≤ (σ.pos : Int) + 1 := by omega
  have q1 : (σ.pos : Int) + 1 < (s.size : Int) := by omega
  have hlB : decide ((s.size : Int) ≤ (σ.pos : Int) + 1) = false := by simp; omega
  have htn : ((σ.pos : Int) + 1).toNat = σ.pos + 1 := by omega
  have HB := hd hB
  clear hB
  go_enter Tryd.func48, Tryd.ntmps48
  go_wp2
  go_quiet (fail)
  go_wp2
  go_quiet (fail)
  go_wp2_with fail
  refine (reference_at (by exact h.drewN) _ 7 (by rfl) (by omega) (by omega) hp HB.out.2.1 HB.out.2.2.2.2.1).mono ?_
  rintro e w2 ⟨rfl, hr, hbw⟩
  have HR := hd hr
  have HW := hd hbw
  clear hr hbw
  go_wp2
  go_ret
  exact ⟨rfl, ⟨H, HR.out⟩, (below_drewN _ _ _).trans HW.out⟩

set_option maxRecDepth 100000 in
set_option maxHeartbeats 1600000 in
theorem escape_ref8 {w : World} {base R : Nat} {s : ByteArray} {H : Fins} {σ : St} (h : Rd w base R s H σ) (hB : Bd σ) (hl : σ.pos + 1 < s.size) (hc : (s[σ.pos + 1].toNat : Int) = 56) :
    Calls Tryd.prog 48 #[.pointer (some ⟨R, 0, none⟩)] w fun e w' => e = .returned (.int .i64 (refT σ 8).1) ∧ (∃ H', Rd w' base R s H' (refT σ 8).2) ∧ Below R w w' := by
  have hp := hB.1
  have c0 := h.c0
  have c1 := h.c1
  have w1' := wrapI ((σ.pos : Int) + 1) (by omega) (by omega)
  have q0 : (0 : Int) ≤ (σ.pos : Int) + 1 := by omega
  have q1 : (σ.pos : Int) + 1 < (s.size : Int) := by omega
  have hlB : decide ((s.size : Int) ≤ (σ.pos : Int) + 1) = false := by simp; omega
  have htn : ((σ.pos : Int) + 1).toNat = σ.pos + 1 := by omega
  have HB := hd hB
  clear hB
  go_enter Tryd.func48, Tryd.ntmps48
  go_wp2
  go_quiet (fail)
  go_wp2
  go_quiet (fail)
  go_wp2_with fail
  refine (reference_at (by exact h.drewN) _ 8 (by rfl) (by omega) (by omega) hp HB.out.2.1 HB.out.2.2.2.2.1).mono ?_
  rintro e w2 ⟨rfl, hr, hbw⟩
  have HR := hd hr
  have HW := hd hbw
  clear hr hbw
  go_wp2
  go_ret
  exact ⟨rfl, ⟨H, HR.out⟩, (below_drewN _ _ _).trans HW.out⟩

set_option maxRecDepth 100000 in
set_option maxHeartbeats 1600000 in
theorem escape_ref9 {w : World} {base R : Nat} {s : ByteArray} {H : Fins} {σ : St} (h : Rd w base R s H σ) (hB : Bd σ) (hl : σ.pos + 1 < s.size) (hc : (s[σ.pos + 1].toNat : Int) = 57) :
    Calls Tryd.prog 48 #[.pointer (some ⟨R, 0, none⟩)] w fun e w' => e = .returned (.int .i64 (refT σ 9).1) ∧ (∃ H', Rd w' base R s H' (refT σ 9).2) ∧ Below R w w' := by
  have hp := hB.1
  have c0 := h.c0
  have c1 := h.c1
  have w1' := wrapI ((σ.pos : Int) + 1) (by omega) (by omega)
  have q0 : (0 : Int) ≤ (σ.pos : Int) + 1 := by omega
  have q1 : (σ.pos : Int) + 1 < (s.size : Int) := by omega
  have hlB : decide ((s.size : Int) ≤ (σ.pos : Int) + 1) = false := by simp; omega
  have htn : ((σ.pos : Int) + 1).toNat = σ.pos + 1 := by omega
  have HB := hd hB
  clear hB
  go_enter Tryd.func48, Tryd.ntmps48
  go_wp2
  go_quiet (fail)
  go_wp2
  go_quiet (fail)
  go_wp2_with fail
  refine (reference_at (by exact h.drewN) _ 9 (by rfl) (by omega) (by omega) hp HB.out.2.1 HB.out.2.2.2.2.1).mono ?_
  rintro e w2 ⟨rfl, hr, hbw⟩
  have HR := hd hr
  have HW := hd hbw
  clear hr hbw
  go_wp2
  go_ret
  exact ⟨rfl, ⟨H, HR.out⟩, (below_drewN _ _ _).trans HW.out⟩

set_option maxRecDepth 100000 in
set_option maxHeartbeats 1600000 in
theorem escape_put46 {w : World} {base R : Nat} {s : ByteArray} {H : Fins} {σ : St} (h : Rd w base R s H σ) (hB : Bd σ) (hl : σ.pos + 1 < s.size) (hc : (s[σ.pos + 1].toNat : Int) = 46) :
    Calls Tryd.prog 48 #[.pointer (some ⟨R, 0, none⟩)] w fun e w' => e = .returned (.int .i64 (((0, addIt σ (itOne (addS noS s[σ.pos + 1].toNat)) 2) : Nat × St)).1) ∧ (∃ H', Rd w' base R s H' (((0, addIt σ (itOne (addS noS s[σ.pos + 1].toNat)) 2) : Nat × St)).2) ∧ Below R w w' := by
  have hp := hB.1
  have c0 := h.c0
  have c1 := h.c1
  have w1' := wrapI ((σ.pos : Int) + 1) (by omega) (by omega)
  have q0 : (0 : Int) ≤ (σ.pos : Int) + 1 := by omega
  have q1 : (σ.pos : Int) + 1 < (s.size : Int) := by omega
  have hlB : decide ((s.size : Int) ≤ (σ.pos : Int) + 1) = false := by simp; omega
  have htn : ((σ.pos : Int) + 1).toNat = σ.pos + 1 := by omega
  have HB := hd hB
  clear hB
  go_enter Tryd.func48, Tryd.ntmps48
  go_wp2
  go_quiet (fail)
  go_wp2
  go_quiet (fail)
  go_wp2_with fail
  refine (oneByte_any _ _ (by omega) (by omega)).mono ?_
  rintro e w2 ⟨a0, a1, a2, a3, a4, a5, a6, a7, rfl, hw8, hb2⟩
  have H8 : Hid (W8 a0 a1 a2 a3 a4 a5 a6 a7 (addS noS s[σ.pos + 1].toNat)) := hd (by rw [show s[σ.pos + 1].toNat = 46 by omega]; simpa [htn] using hw8)
  clear hw8
  have hr2 := h.drewN.below hb2
  have HW2 := hd ((below_drewN R w _).trans (hb2.mono (Nat.le_of_lt (by have := h.hR; have := h.hb; show R < w.heap.size; omega))))
  clear hb2 c0 c1
  go_wp2_with fail
  refine (put_rd hr2 2 (by omega) hp HB.out.2.1 0 a0 a1 a2 a3 a4 a5 a6 a7 0 0 0 none 0 0 (itOne (addS noS s[σ.pos + 1].toNat)) (ok_one H _ H8.out)).mono ?_
  rintro e w3 ⟨rfl, hr, hbw⟩
  have HR := hd hr
  have HW := hd hbw
  clear hr hbw hr2
  go_wp2
  go_ret
  exact ⟨rfl, ⟨H, HR.out⟩, HW2.out.trans HW.out⟩

set_option maxRecDepth 100000 in
set_option maxHeartbeats 1600000 in
theorem escape_put91 {w : World} {base R : Nat} {s : ByteArray} {H : Fins} {σ : St} (h : Rd w base R s H σ) (hB : Bd σ) (hl : σ.pos + 1 < s.size) (hc : (s[σ.pos + 1].toNat : Int) = 91) :
    Calls Tryd.prog 48 #[.pointer (some ⟨R, 0, none⟩)] w fun e w' => e = .returned (.int .i64 (((0, addIt σ (itOne (addS noS s[σ.pos + 1].toNat)) 2) : Nat × St)).1) ∧ (∃ H', Rd w' base R s H' (((0, addIt σ (itOne (addS noS s[σ.pos + 1].toNat)) 2) : Nat × St)).2) ∧ Below R w w' := by
  have hp := hB.1
  have c0 := h.c0
  have c1 := h.c1
  have w1' := wrapI ((σ.pos : Int) + 1) (by omega) (by omega)
  have q0 : (0 : Int) ≤ (σ.pos : Int) + 1 := by omega
  have q1 : (σ.pos : Int) + 1 < (s.size : Int) := by omega
  have hlB : decide ((s.size : Int) ≤ (σ.pos : Int) + 1) = false := by simp; omega
  have htn : ((σ.pos : Int) + 1).toNat = σ.pos + 1 := by omega
  have HB := hd hB
  clear hB
  go_enter Tryd.func48, Tryd.ntmps48
  go_wp2
  go_quiet (fail)
  go_wp2
  go_quiet (fail)
  go_wp2_with fail
  refine (oneByte_any _ _ (by omega) (by omega)).mono ?_
  rintro e w2 ⟨a0, a1, a2, a3, a4, a5, a6, a7, rfl, hw8, hb2⟩
  have H8 : Hid (W8 a0 a1 a2 a3 a4 a5 a6 a7 (addS noS s[σ.pos + 1].toNat)) := hd (by rw [show s[σ.pos + 1].toNat = 91 by omega]; simpa [htn] using hw8)
  clear hw8
  have hr2 := h.drewN.below hb2
  have HW2 := hd ((below_drewN R w _).trans (hb2.mono (Nat.le_of_lt (by have := h.hR; have := h.hb; show R < w.heap.size; omega))))
  clear hb2 c0 c1
  go_wp2_with fail
  refine (put_rd hr2 2 (by omega) hp HB.out.2.1 0 a0 a1 a2 a3 a4 a5 a6 a7 0 0 0 none 0 0 (itOne (addS noS s[σ.pos + 1].toNat)) (ok_one H _ H8.out)).mono ?_
  rintro e w3 ⟨rfl, hr, hbw⟩
  have HR := hd hr
  have HW := hd hbw
  clear hr hbw hr2
  go_wp2
  go_ret
  exact ⟨rfl, ⟨H, HR.out⟩, HW2.out.trans HW.out⟩

set_option maxRecDepth 100000 in
set_option maxHeartbeats 1600000 in
theorem escape_put93 {w : World} {base R : Nat} {s : ByteArray} {H : Fins} {σ : St} (h : Rd w base R s H σ) (hB : Bd σ) (hl : σ.pos + 1 < s.size) (hc : (s[σ.pos + 1].toNat : Int) = 93) :
    Calls Tryd.prog 48 #[.pointer (some ⟨R, 0, none⟩)] w fun e w' => e = .returned (.int .i64 (((0, addIt σ (itOne (addS noS s[σ.pos + 1].toNat)) 2) : Nat × St)).1) ∧ (∃ H', Rd w' base R s H' (((0, addIt σ (itOne (addS noS s[σ.pos + 1].toNat)) 2) : Nat × St)).2) ∧ Below R w w' := by
  have hp := hB.1
  have c0 := h.c0
  have c1 := h.c1
  have w1' := wrapI ((σ.pos : Int) + 1) (by omega) (by omega)
  have q0 : (0 : Int) ≤ (σ.pos : Int) + 1 := by omega
  have q1 : (σ.pos : Int) + 1 < (s.size : Int) := by omega
  have hlB : decide ((s.size : Int) ≤ (σ.pos : Int) + 1) = false := by simp; omega
  have htn : ((σ.pos : Int) + 1).toNat = σ.pos + 1 := by omega
  have HB := hd hB
  clear hB
  go_enter Tryd.func48, Tryd.ntmps48
  go_wp2
  go_quiet (fail)
  go_wp2
  go_quiet (fail)
  go_wp2_with fail
  refine (oneByte_any _ _ (by omega) (by omega)).mono ?_
  rintro e w2 ⟨a0, a1, a2, a3, a4, a5, a6, a7, rfl, hw8, hb2⟩
  have H8 : Hid (W8 a0 a1 a2 a3 a4 a5 a6 a7 (addS noS s[σ.pos + 1].toNat)) := hd (by rw [show s[σ.pos + 1].toNat = 93 by omega]; simpa [htn] using hw8)
  clear hw8
  have hr2 := h.drewN.below hb2
  have HW2 := hd ((below_drewN R w _).trans (hb2.mono (Nat.le_of_lt (by have := h.hR; have := h.hb; show R < w.heap.size; omega))))
  clear hb2 c0 c1
  go_wp2_with fail
  refine (put_rd hr2 2 (by omega) hp HB.out.2.1 0 a0 a1 a2 a3 a4 a5 a6 a7 0 0 0 none 0 0 (itOne (addS noS s[σ.pos + 1].toNat)) (ok_one H _ H8.out)).mono ?_
  rintro e w3 ⟨rfl, hr, hbw⟩
  have HR := hd hr
  have HW := hd hbw
  clear hr hbw hr2
  go_wp2
  go_ret
  exact ⟨rfl, ⟨H, HR.out⟩, HW2.out.trans HW.out⟩

set_option maxRecDepth 100000 in
set_option maxHeartbeats 1600000 in
theorem escape_put42 {w : World} {base R : Nat} {s : ByteArray} {H : Fins} {σ : St} (h : Rd w base R s H σ) (hB : Bd σ) (hl : σ.pos + 1 < s.size) (hc : (s[σ.pos + 1].toNat : Int) = 42) :
    Calls Tryd.prog 48 #[.pointer (some ⟨R, 0, none⟩)] w fun e w' => e = .returned (.int .i64 (((0, addIt σ (itOne (addS noS s[σ.pos + 1].toNat)) 2) : Nat × St)).1) ∧ (∃ H', Rd w' base R s H' (((0, addIt σ (itOne (addS noS s[σ.pos + 1].toNat)) 2) : Nat × St)).2) ∧ Below R w w' := by
  have hp := hB.1
  have c0 := h.c0
  have c1 := h.c1
  have w1' := wrapI ((σ.pos : Int) + 1) (by omega) (by omega)
  have q0 : (0 : Int) ≤ (σ.pos : Int) + 1 := by omega
  have q1 : (σ.pos : Int) + 1 < (s.size : Int) := by omega
  have hlB : decide ((s.size : Int) ≤ (σ.pos : Int) + 1) = false := by simp; omega
  have htn : ((σ.pos : Int) + 1).toNat = σ.pos + 1 := by omega
  have HB := hd hB
  clear hB
  go_enter Tryd.func48, Tryd.ntmps48
  go_wp2
  go_quiet (fail)
  go_wp2
  go_quiet (fail)
  go_wp2_with fail
  refine (oneByte_any _ _ (by omega) (by omega)).mono ?_
  rintro e w2 ⟨a0, a1, a2, a3, a4, a5, a6, a7, rfl, hw8, hb2⟩
  have H8 : Hid (W8 a0 a1 a2 a3 a4 a5 a6 a7 (addS noS s[σ.pos + 1].toNat)) := hd (by rw [show s[σ.pos + 1].toNat = 42 by omega]; simpa [htn] using hw8)
  clear hw8
  have hr2 := h.drewN.below hb2
  have HW2 := hd ((below_drewN R w _).trans (hb2.mono (Nat.le_of_lt (by have := h.hR; have := h.hb; show R < w.heap.size; omega))))
  clear hb2 c0 c1
  go_wp2_with fail
  refine (put_rd hr2 2 (by omega) hp HB.out.2.1 0 a0 a1 a2 a3 a4 a5 a6 a7 0 0 0 none 0 0 (itOne (addS noS s[σ.pos + 1].toNat)) (ok_one H _ H8.out)).mono ?_
  rintro e w3 ⟨rfl, hr, hbw⟩
  have HR := hd hr
  have HW := hd hbw
  clear hr hbw hr2
  go_wp2
  go_ret
  exact ⟨rfl, ⟨H, HR.out⟩, HW2.out.trans HW.out⟩

set_option maxRecDepth 100000 in
set_option maxHeartbeats 1600000 in
theorem escape_put94 {w : World} {base R : Nat} {s : ByteArray} {H : Fins} {σ : St} (h : Rd w base R s H σ) (hB : Bd σ) (hl : σ.pos + 1 < s.size) (hc : (s[σ.pos + 1].toNat : Int) = 94) :
    Calls Tryd.prog 48 #[.pointer (some ⟨R, 0, none⟩)] w fun e w' => e = .returned (.int .i64 (((0, addIt σ (itOne (addS noS s[σ.pos + 1].toNat)) 2) : Nat × St)).1) ∧ (∃ H', Rd w' base R s H' (((0, addIt σ (itOne (addS noS s[σ.pos + 1].toNat)) 2) : Nat × St)).2) ∧ Below R w w' := by
  have hp := hB.1
  have c0 := h.c0
  have c1 := h.c1
  have w1' := wrapI ((σ.pos : Int) + 1) (by omega) (by omega)
  have q0 : (0 : Int) ≤ (σ.pos : Int) + 1 := by omega
  have q1 : (σ.pos : Int) + 1 < (s.size : Int) := by omega
  have hlB : decide ((s.size : Int) ≤ (σ.pos : Int) + 1) = false := by simp; omega
  have htn : ((σ.pos : Int) + 1).toNat = σ.pos + 1 := by omega
  have HB := hd hB
  clear hB
  go_enter Tryd.func48, Tryd.ntmps48
  go_wp2
  go_quiet (fail)
  go_wp2
  go_quiet (fail)
  go_wp2_with fail
  refine (oneByte_any _ _ (by omega) (by omega)).mono ?_
  rintro e w2 ⟨a0, a1, a2, a3, a4, a5, a6, a7, rfl, hw8, hb2⟩
  have H8 : Hid (W8 a0 a1 a2 a3 a4 a5 a6 a7 (addS noS s[σ.pos + 1].toNat)) := hd (by rw [show s[σ.pos + 1].toNat = 94 by omega]; simpa [htn] using hw8)
  clear hw8
  have hr2 := h.drewN.below hb2
  have HW2 := hd ((below_drewN R w _).trans (hb2.mono (Nat.le_of_lt (by have := h.hR; have := h.hb; show R < w.heap.size; omega))))
  clear hb2 c0 c1
  go_wp2_with fail
  refine (put_rd hr2 2 (by omega) hp HB.out.2.1 0 a0 a1 a2 a3 a4 a5 a6 a7 0 0 0 none 0 0 (itOne (addS noS s[σ.pos + 1].toNat)) (ok_one H _ H8.out)).mono ?_
  rintro e w3 ⟨rfl, hr, hbw⟩
  have HR := hd hr
  have HW := hd hbw
  clear hr hbw hr2
  go_wp2
  go_ret
  exact ⟨rfl, ⟨H, HR.out⟩, HW2.out.trans HW.out⟩

set_option maxRecDepth 100000 in
set_option maxHeartbeats 1600000 in
theorem escape_put36 {w : World} {base R : Nat} {s : ByteArray} {H : Fins} {σ : St} (h : Rd w base R s H σ) (hB : Bd σ) (hl : σ.pos + 1 < s.size) (hc : (s[σ.pos + 1].toNat : Int) = 36) :
    Calls Tryd.prog 48 #[.pointer (some ⟨R, 0, none⟩)] w fun e w' => e = .returned (.int .i64 (((0, addIt σ (itOne (addS noS s[σ.pos + 1].toNat)) 2) : Nat × St)).1) ∧ (∃ H', Rd w' base R s H' (((0, addIt σ (itOne (addS noS s[σ.pos + 1].toNat)) 2) : Nat × St)).2) ∧ Below R w w' := by
  have hp := hB.1
  have c0 := h.c0
  have c1 := h.c1
  have w1' := wrapI ((σ.pos : Int) + 1) (by omega) (by omega)
  have q0 : (0 : Int) ≤ (σ.pos : Int) + 1 := by omega
  have q1 : (σ.pos : Int) + 1 < (s.size : Int) := by omega
  have hlB : decide ((s.size : Int) ≤ (σ.pos : Int) + 1) = false := by simp; omega
  have htn : ((σ.pos : Int) + 1).toNat = σ.pos + 1 := by omega
  have HB := hd hB
  clear hB
  go_enter Tryd.func48, Tryd.ntmps48
  go_wp2
  go_quiet (fail)
  go_wp2
  go_quiet (fail)
  go_wp2_with fail
  refine (oneByte_any _ _ (by omega) (by omega)).mono ?_
  rintro e w2 ⟨a0, a1, a2, a3, a4, a5, a6, a7, rfl, hw8, hb2⟩
  have H8 : Hid (W8 a0 a1 a2 a3 a4 a5 a6 a7 (addS noS s[σ.pos + 1].toNat)) := hd (by rw [show s[σ.pos + 1].toNat = 36 by omega]; simpa [htn] using hw8)
  clear hw8
  have hr2 := h.drewN.below hb2
  have HW2 := hd ((below_drewN R w _).trans (hb2.mono (Nat.le_of_lt (by have := h.hR; have := h.hb; show R < w.heap.size; omega))))
  clear hb2 c0 c1
  go_wp2_with fail
  refine (put_rd hr2 2 (by omega) hp HB.out.2.1 0 a0 a1 a2 a3 a4 a5 a6 a7 0 0 0 none 0 0 (itOne (addS noS s[σ.pos + 1].toNat)) (ok_one H _ H8.out)).mono ?_
  rintro e w3 ⟨rfl, hr, hbw⟩
  have HR := hd hr
  have HW := hd hbw
  clear hr hbw hr2
  go_wp2
  go_ret
  exact ⟨rfl, ⟨H, HR.out⟩, HW2.out.trans HW.out⟩

set_option maxRecDepth 100000 in
set_option maxHeartbeats 1600000 in
theorem escape_put92 {w : World} {base R : Nat} {s : ByteArray} {H : Fins} {σ : St} (h : Rd w base R s H σ) (hB : Bd σ) (hl : σ.pos + 1 < s.size) (hc : (s[σ.pos + 1].toNat : Int) = 92) :
    Calls Tryd.prog 48 #[.pointer (some ⟨R, 0, none⟩)] w fun e w' => e = .returned (.int .i64 (((0, addIt σ (itOne (addS noS s[σ.pos + 1].toNat)) 2) : Nat × St)).1) ∧ (∃ H', Rd w' base R s H' (((0, addIt σ (itOne (addS noS s[σ.pos + 1].toNat)) 2) : Nat × St)).2) ∧ Below R w w' := by
  have hp := hB.1
  have c0 := h.c0
  have c1 := h.c1
  have w1' := wrapI ((σ.pos : Int) + 1) (by omega) (by omega)
  have q0 : (0 : Int) ≤ (σ.pos : Int) + 1 := by omega
  have q1 : (σ.pos : Int) + 1 < (s.size : Int) := by omega
  have hlB : decide ((s.size : Int) ≤ (σ.pos : Int) + 1) = false := by simp; omega
  have htn : ((σ.pos : Int) + 1).toNat = σ.pos + 1 := by omega
  have HB := hd hB
  clear hB
  go_enter Tryd.func48, Tryd.ntmps48
  go_wp2
  go_quiet (fail)
  go_wp2
  go_quiet (fail)
  go_wp2_with fail
  refine (oneByte_any _ _ (by omega) (by omega)).mono ?_
  rintro e w2 ⟨a0, a1, a2, a3, a4, a5, a6, a7, rfl, hw8, hb2⟩
  have H8 : Hid (W8 a0 a1 a2 a3 a4 a5 a6 a7 (addS noS s[σ.pos + 1].toNat)) := hd (by rw [show s[σ.pos + 1].toNat = 92 by omega]; simpa [htn] using hw8)
  clear hw8
  have hr2 := h.drewN.below hb2
  have HW2 := hd ((below_drewN R w _).trans (hb2.mono (Nat.le_of_lt (by have := h.hR; have := h.hb; show R < w.heap.size; omega))))
  clear hb2 c0 c1
  go_wp2_with fail
  refine (put_rd hr2 2 (by omega) hp HB.out.2.1 0 a0 a1 a2 a3 a4 a5 a6 a7 0 0 0 none 0 0 (itOne (addS noS s[σ.pos + 1].toNat)) (ok_one H _ H8.out)).mono ?_
  rintro e w3 ⟨rfl, hr, hbw⟩
  have HR := hd hr
  have HW := hd hbw
  clear hr hbw hr2
  go_wp2
  go_ret
  exact ⟨rfl, ⟨H, HR.out⟩, HW2.out.trans HW.out⟩

set_option maxRecDepth 100000 in
set_option maxHeartbeats 1600000 in
theorem escape_bad {w : World} {base R : Nat} {s : ByteArray} {H : Fins} {σ : St} (h : Rd w base R s H σ) (hB : Bd σ) (hl : σ.pos + 1 < s.size) (n40 : (s[σ.pos + 1].toNat : Int) ≠ 40) (n41 : (s[σ.pos + 1].toNat : Int) ≠ 41) (n123 : (s[σ.pos + 1].toNat : Int) ≠ 123) (n49 : (s[σ.pos + 1].toNat : Int) ≠ 49) (n50 : (s[σ.pos + 1].toNat : Int) ≠ 50) (n51 : (s[σ.pos + 1].toNat : Int) ≠ 51) (n52 : (s[σ.pos + 1].toNat : Int) ≠ 52) (n53 : (s[σ.pos + 1].toNat : Int) ≠ 53) (n54 : (s[σ.pos + 1].toNat : Int) ≠ 54) (n55 : (s[σ.pos + 1].toNat : Int) ≠ 55) (n56 : (s[σ.pos + 1].toNat : Int) ≠ 56) (n57 : (s[σ.pos + 1].toNat : Int) ≠ 57) (n46 : (s[σ.pos + 1].toNat : Int) ≠ 46) (n91 : (s[σ.pos + 1].toNat : Int) ≠ 91) (n93 : (s[σ.pos + 1].toNat : Int) ≠ 93) (n42 : (s[σ.pos + 1].toNat : Int) ≠ 42) (n94 : (s[σ.pos + 1].toNat : Int) ≠ 94) (n36 : (s[σ.pos + 1].toNat : Int) ≠ 36) (n92 : (s[σ.pos + 1].toNat : Int) ≠ 92) :
    Calls Tryd.prog 48 #[.pointer (some ⟨R, 0, none⟩)] w fun e w' => e = .returned (.int .i64 (((3, σ) : Nat × St)).1) ∧ (∃ H', Rd w' base R s H' (((3, σ) : Nat × St)).2) ∧ Below R w w' := by
  have m40 : ((s[σ.pos + 1].toNat : Int) == 40) = false := by simpa using n40
  have m41 : ((s[σ.pos + 1].toNat : Int) == 41) = false := by simpa using n41
  have m123 : ((s[σ.pos + 1].toNat : Int) == 123) = false := by simpa using n123
  have m49 : ((s[σ.pos + 1].toNat : Int) == 49) = false := by simpa using n49
  have m50 : ((s[σ.pos + 1].toNat : Int) == 50) = false := by simpa using n50
  have m51 : ((s[σ.pos + 1].toNat : Int) == 51) = false := by simpa using n51
  have m52 : ((s[σ.pos + 1].toNat : Int) == 52) = false := by simpa using n52
  have m53 : ((s[σ.pos + 1].toNat : Int) == 53) = false := by simpa using n53
  have m54 : ((s[σ.pos + 1].toNat : Int) == 54) = false := by simpa using n54
  have m55 : ((s[σ.pos + 1].toNat : Int) == 55) = false := by simpa using n55
  have m56 : ((s[σ.pos + 1].toNat : Int) == 56) = false := by simpa using n56
  have m57 : ((s[σ.pos + 1].toNat : Int) == 57) = false := by simpa using n57
  have m46 : ((s[σ.pos + 1].toNat : Int) == 46) = false := by simpa using n46
  have m91 : ((s[σ.pos + 1].toNat : Int) == 91) = false := by simpa using n91
  have m93 : ((s[σ.pos + 1].toNat : Int) == 93) = false := by simpa using n93
  have m42 : ((s[σ.pos + 1].toNat : Int) == 42) = false := by simpa using n42
  have m94 : ((s[σ.pos + 1].toNat : Int) == 94) = false := by simpa using n94
  have m36 : ((s[σ.pos + 1].toNat : Int) == 36) = false := by simpa using n36
  have m92 : ((s[σ.pos + 1].toNat : Int) == 92) = false := by simpa using n92
  clear n40 n41 n123 n49 n50 n51 n52 n53 n54 n55 n56 n57 n46 n91 n93 n42 n94 n36 n92
  have hp := hB.1
  have c0 := h.c0
  have c1 := h.c1
  have w1' := wrapI ((σ.pos : Int) + 1) (by omega) (by omega)
  have q0 : (0 : Int) ≤ (σ.pos : Int) + 1 := by omega
  have q1 : (σ.pos : Int) + 1 < (s.size : Int) := by omega
  have hlB : decide ((s.size : Int) ≤ (σ.pos : Int) + 1) = false := by simp; omega
  have htn : ((σ.pos : Int) + 1).toNat = σ.pos + 1 := by omega
  have HB := hd hB
  clear hB
  go_enter Tryd.func48, Tryd.ntmps48
  go_wp2
  go_quiet (fail)
  go_wp2
  go_quiet (fail)
  go_wp2
  go_ret
  exact ⟨rfl, ⟨H, h.drewN⟩, below_drewN _ _ _⟩
end Go.Proofs.YtknckgibfbboaaaDoor
