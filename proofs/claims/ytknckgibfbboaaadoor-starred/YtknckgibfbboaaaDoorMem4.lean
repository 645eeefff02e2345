import Derived.Test.YtknckgibfbboaaaDoorMem3
namespace Go.Proofs.YtknckgibfbboaaaDoor
open Go.RowKit
variable {f : Nat → Bool}

set_option maxRecDepth 100000 in
set_option maxHeartbeats 800000 in
theorem mstep_ns (M : Nat) (s : ByteArray) (p : Nat) (bc : Bool) (c e0 p1 : Nat) (b1 : Bool) (w : World) (hm : Mem w M s p bc f) (hs : s.size ≤ 60) (hp : p < s.size) (hc : ch s.data.toList p = c)
    (hnm : nmB s.data.toList p = false) (hb : bc = true) (h45 : c ≠ 45) (hsw : sw s.data.toList (p + 1) [45] = false) (hr : mstep s.data.toList p bc = (e0, p1, b1)) :
    Calls Tryd.prog 75 #[.pointer (some ⟨M, 0, none⟩), .int .u8 c] w fun e w' => e = .returned (.int .i64 e0) ∧ Mem w' M s p1 b1 (mset s.data.toList p bc f) ∧ Only w w' M 0 11 := by
  have c0 := hm.c0
  have c1 := hm.c1
  have c10 := hm.c10
  have f1 := hm.f1
  have f10 := hm.f10
  have w1' := wrapI ((p : Int) + 1) (by omega) (by omega)
  have w2' := wrapI ((p : Int) + 2) (by omega) (by omega)
  have hc256 := ch_lt s.data.toList p
  rw [hc] at hc256
  have hx := (show mstep s.data.toList p bc = (0, p + 1, false) by unfold mstep; simp [hnm, hb, hc, h45, hsw]).symm.trans hr
  rw [show mset s.data.toList p bc f = addS f c by unfold mset; simp [hnm, hb, hc, h45, hsw]]
  simp only [Prod.mk.injEq] at hx
  obtain ⟨rfl, rfl, rfl⟩ := hx
  clear hr
  clear hc
  subst hb
  have h45' : ((c : Int) == 45) = false := by simp; omega
  clear h45
  go_enter Tryd.func75, Tryd.ntmps75
  go_wp2
  go_quiet ((go_at_call 81; exact Calls.quiet_of_same (begins_at s _ p _ rfl (by omega))))
  simp only [hnm]
  go_wp2_with (go_at_call 83; refine (endsAt_at M s p _ _ (p + 1) _ (by omega) (by exact hm.drewN)).mono ?_; rintro e w' ⟨rfl, rfl⟩)
  have hm1 : Mem ((w.drewN nq).setCell ⟨M, 10, none⟩ (.bool false)) M s p false f := hm.drewN.marked
  have Ho1 : Hid (Only w ((w.drewN nq).setCell ⟨M, 10, none⟩ (.bool false)) M 0 11) := hd ((Only.refl _ _ _ _).drewN.setCell _ (by omega) _)
  generalize (w.drewN nq).setCell ⟨M, 10, none⟩ (.bool false) = W at hm1 Ho1 ⊢
  clear c0 c1 c10 f1 f10 hm hnm
  have c0 := hm1.c0
  have c1 := hm1.c1
  have f1 := hm1.f1
  go_quiet ((go_at_call 68; exact Calls.quiet_of_same (hasAt_b s _ _ (p + 1) [45] false _ hsw (by omega) rfl (by omega) (by decide) (by decide) (by omega))))
  go_wp2_with fail
  refine (add_any M 2 _ _ (by omega) (by omega) (by exact hm1.set.drewN)).mono ?_
  rintro e w2 ⟨rfl, hs2, ho2⟩
  have hm2 : Mem w2 M s p false (addS f c) := hm1.drewN.only ho2 hs2.1 (hs2.2 _ hm1.is.drewN)
  have Ho2 : Hid (Only w w2 M 0 11) := hd (Ho1.out.drewN.trans (ho2.mono (by omega) (by omega)))
  have d1 := hm2.c1
  have g1 := hm2.f1
  clear ho2 c0 c1 f1
  go_wp2
  go_ret
  exact ⟨rfl, by simpa using hm2.moved1 (q := p + 1), Ho2.out.setCell _ (by omega) _⟩

set_option maxRecDepth 100000 in
set_option maxHeartbeats 800000 in
theorem mstep_ne (M : Nat) (s : ByteArray) (p : Nat) (bc : Bool) (c e0 p1 : Nat) (b1 : Bool) (w : World) (hm : Mem w M s p bc f) (hs : s.size ≤ 60) (hp : p < s.size) (hc : ch s.data.toList p = c)
    (hnm : nmB s.data.toList p = false) (hb : bc = true) (h45 : c ≠ 45) (hsw : sw s.data.toList (p + 1) [45] = true) (he2 : endB s.data.toList (p + 2) = true) (hr : mstep s.data.toList p bc = (e0, p1, b1)) :
    Calls Tryd.prog 75 #[.pointer (some ⟨M, 0, none⟩), .int .u8 c] w fun e w' => e = .returned (.int .i64 e0) ∧ Mem w' M s p1 b1 (mset s.data.toList p bc f) ∧ Only w w' M 0 11 := by
  have c0 := hm.c0
  have c1 := hm.c1
  have c10 := hm.c10
  have f1 := hm.f1
  have f10 := hm.f10
  have w1' := wrapI ((p : Int) + 1) (by omega) (by omega)
  have w2' := wrapI ((p : Int) + 2) (by omega) (by omega)
  have hc256 := ch_lt s.data.toList p
  rw [hc] at hc256
  have hx := (show mstep s.data.toList p bc = (0, p + 1, false) by unfold mstep; simp [hnm, hb, hc, h45, hsw, he2]).symm.trans hr
  rw [show mset s.data.toList p bc f = addS f c by unfold mset; simp [hnm, hb, hc, h45, hsw, he2]]
  simp only [Prod.mk.injEq] at hx
  obtain ⟨rfl, rfl, rfl⟩ := hx
  clear hr
  clear hc
  subst hb
  have h45' : ((c : Int) == 45) = false := by simp; omega
  clear h45
  go_enter Tryd.func75, Tryd.ntmps75
  go_wp2
  go_quiet ((go_at_call 81; exact Calls.quiet_of_same (begins_at s _ p _ rfl (by omega))))
  simp only [hnm]
  go_wp2_with (go_at_call 83; refine (endsAt_at M s p _ _ (p + 1) _ (by omega) (by exact hm.drewN)).mono ?_; rintro e w' ⟨rfl, rfl⟩)
  have hm1 : Mem ((w.drewN nq).setCell ⟨M, 10, none⟩ (.bool false)) M s p false f := hm.drewN.marked
  have Ho1 : Hid (Only w ((w.drewN nq).setCell ⟨M, 10, none⟩ (.bool false)) M 0 11) := hd ((Only.refl _ _ _ _).drewN.setCell _ (by omega) _)
  generalize (w.drewN nq).setCell ⟨M, 10, none⟩ (.bool false) = W at hm1 Ho1 ⊢
  clear c0 c1 c10 f1 f10 hm hnm
  have c0 := hm1.c0
  have c1 := hm1.c1
  have f1 := hm1.f1
  go_quiet (first | (go_at_call 68; exact Calls.quiet_of_same (hasAt_b s _ _ (p + 1) [45] true _ hsw (by omega) rfl (by omega) (by decide) (by decide) (by omega))) | (go_at_call 83; exact Calls.quiet_of_same (endsAt_b M s p false _ (p + 2) true _ he2 (by omega) (by exact hm1.drewN))))
  go_wp2_with fail
  refine (add_any M 2 _ _ (by omega) (by omega) (by exact hm1.set.drewN)).mono ?_
  rintro e w2 ⟨rfl, hs2, ho2⟩
  have hm2 : Mem w2 M s p false (addS f c) := hm1.drewN.only ho2 hs2.1 (hs2.2 _ hm1.is.drewN)
  have Ho2 : Hid (Only w w2 M 0 11) := hd (Ho1.out.drewN.trans (ho2.mono (by omega) (by omega)))
  have d1 := hm2.c1
  have g1 := hm2.f1
  clear ho2 c0 c1 f1
  go_wp2
  go_ret
  exact ⟨rfl, by simpa using hm2.moved1 (q := p + 1), Ho2.out.setCell _ (by omega) _⟩

set_option maxRecDepth 100000 in
set_option maxHeartbeats 800000 in
theorem mstep_nr (M : Nat) (s : ByteArray) (p : Nat) (bc : Bool) (c e0 p1 : Nat) (b1 : Bool) (w : World) (hm : Mem w M s p bc f) (hs : s.size ≤ 60) (_hp : p < s.size) (hc : ch s.data.toList p = c)
    (hnm : nmB s.data.toList p = false) (hb : bc = true) (h45 : c ≠ 45) (hsw : sw s.data.toList (p + 1) [45] = true) (he2 : endB s.data.toList (p + 2) = false) (hp2 : p + 2 < s.size) (hr : mstep s.data.toList p bc = (e0, p1, b1)) :
    Calls Tryd.prog 75 #[.pointer (some ⟨M, 0, none⟩), .int .u8 c] w fun e w' => e = .returned (.int .i64 e0) ∧ Mem w' M s p1 b1 (mset s.data.toList p bc f) ∧ Only w w' M 0 11 := by
  have c0 := hm.c0
  have c1 := hm.c1
  have c10 := hm.c10
  have f1 := hm.f1
  have f10 := hm.f10
  have w1' := wrapI ((p : Int) + 1) (by omega) (by omega)
  have w2' := wrapI ((p : Int) + 2) (by omega) (by omega)
  have hc256 := ch_lt s.data.toList p
  rw [hc] at hc256
  have hx := (show mstep s.data.toList p bc = ((rgE s.data.toList p c).toNat, rgP s.data.toList p c, false) from mstep_rg hnm hc (by simp [hb, hc, h45]) hsw he2 (by simpa using hp2)).symm.trans hr
  rw [mset_rg (f := f) hnm hc (by simp [hb, hc, h45]) hsw he2]
  simp only [Prod.mk.injEq] at hx
  obtain ⟨rfl, rfl, rfl⟩ := hx
  clear hr
  clear hc
  subst hb
  have h45' : ((c : Int) == 45) = false := by simp; omega
  clear h45
  go_enter Tryd.func75, Tryd.ntmps75
  go_wp2
  go_quiet ((go_at_call 81; exact Calls.quiet_of_same (begins_at s _ p _ rfl (by omega))))
  simp only [hnm]
  go_wp2_with (go_at_call 83; refine (endsAt_at M s p _ _ (p + 1) _ (by omega) (by exact hm.drewN)).mono ?_; rintro e w' ⟨rfl, rfl⟩)
  have hm1 : Mem ((w.drewN nq).setCell ⟨M, 10, none⟩ (.bool false)) M s p false f := hm.drewN.marked
  have Ho1 : Hid (Only w ((w.drewN nq).setCell ⟨M, 10, none⟩ (.bool false)) M 0 11) := hd ((Only.refl _ _ _ _).drewN.setCell _ (by omega) _)
  generalize (w.drewN nq).setCell ⟨M, 10, none⟩ (.bool false) = W at hm1 Ho1 ⊢
  clear c0 c1 c10 f1 f10 hm hnm
  have c0 := hm1.c0
  have c1 := hm1.c1
  have f1 := hm1.f1
  go_quiet (first | (go_at_call 68; exact Calls.quiet_of_same (hasAt_b s _ _ (p + 1) [45] true _ hsw (by omega) rfl (by omega) (by decide) (by decide) (by omega))) | (go_at_call 83; exact Calls.quiet_of_same (endsAt_b M s p false _ (p + 2) false _ he2 (by omega) (by exact hm1.drewN))))
  go_wp2_with fail
  refine (byteRange_any M s p false _ _ (by exact hm1.drewN) hs hp2 (by omega)).mono ?_
  rintro e w2 ⟨rfl, hm2, ho2⟩
  clear c0 c1 f1
  go_wp2
  go_ret
  rw [rgE_nat]
  exact ⟨rfl, hm2, Ho1.out.drewN.trans ho2⟩
end Go.Proofs.YtknckgibfbboaaaDoor
