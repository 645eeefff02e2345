import Derived.Test.YtknckgibfbboaaaDoorRef
import Derived.Test.YtknckgibfbboaaaDoorBrk
namespace Go.Proofs.YtknckgibfbboaaaDoor
open Go.RowKit
attribute [local go_sem ↓] Go.wp_at_zero Go.wp_at_succ

/-- a bracket: the error, the reader's new state -/
def brkT (l : List UInt8) (σ : St) : Nat × St :=
  if (brk l σ.pos).1 = 0 then (0, { σ with pos := (brk l σ.pos).2, inner := { σ.inner with items := σ.inner.items ++ [itOne (brkSet l σ.pos)] } }) else ((brk l σ.pos).1, { σ with pos := (brk l σ.pos).2 })

theorem brac_set {w w2 : World} (hb : Below (w.alloc (.cells #[.int .u32 0, .int .u32 0, .int .u32 0, .int .u32 0, .int .u32 0, .int .u32 0, .int .u32 0, .int .u32 0] 105)).drew.heap.size (w.alloc (.cells #[.int .u32 0, .int .u32 0, .int .u32 0, .int .u32 0, .int .u32 0, .int .u32 0, .int .u32 0, .int .u32 0] 105)).drew w2) : SetAt w2 w.heap.size 0 := by
  intro i hi
  have e1 : w2.cell? ⟨w.heap.size, 0 + i, none⟩ = (w.alloc (.cells #[.int .u32 0, .int .u32 0, .int .u32 0, .int .u32 0, .int .u32 0, .int .u32 0, .int .u32 0, .int .u32 0] 105)).cell? ⟨w.heap.size, 0 + i, none⟩ := hb.cell (by simp)
  have e2 : w2.frozen? ⟨w.heap.size, 0 + i, none⟩ = (w.alloc (.cells #[.int .u32 0, .int .u32 0, .int .u32 0, .int .u32 0, .int .u32 0, .int .u32 0, .int .u32 0, .int .u32 0] 105)).frozen? ⟨w.heap.size, 0 + i, none⟩ := hb.frozen (by simp)
  refine ⟨⟨0, e1.trans ?_⟩, e2.trans (by simp)⟩
  rcases (show i = 0 ∨ i = 1 ∨ i = 2 ∨ i = 3 ∨ i = 4 ∨ i = 5 ∨ i = 6 ∨ i = 7 by omega) with rfl | rfl | rfl | rfl | rfl | rfl | rfl | rfl <;> simp
/-- a set lies at Bs, and nothing old has turned -/
def BMid (w W : World) (Bs : Nat) (z0 z1 z2 z3 z4 z5 z6 z7 : Int) : Prop := Below w.heap.size w W ∧ w.heap.size ≤ Bs ∧ W.cell? ⟨Bs, 0, none⟩ = some (.int .u32 z0) ∧ W.cell? ⟨Bs, 1, none⟩ = some (.int .u32 z1) ∧ W.cell? ⟨Bs, 2, none⟩ = some (.int .u32 z2) ∧ W.cell? ⟨Bs, 3, none⟩ = some (.int .u32 z3) ∧ W.cell? ⟨Bs, 4, none⟩ = some (.int .u32 z4) ∧ W.cell? ⟨Bs, 5, none⟩ = some (.int .u32 z5) ∧ W.cell? ⟨Bs, 6, none⟩ = some (.int .u32 z6) ∧ W.cell? ⟨Bs, 7, none⟩ = some (.int .u32 z7)
theorem bmid1 {w w2 : World} (z0 z1 z2 z3 z4 z5 z6 z7 : Int) (hb : Below w.heap.size w w2) : BMid w (w2.alloc (.cells #[.int .u32 z0, .int .u32 z1, .int .u32 z2, .int .u32 z3, .int .u32 z4, .int .u32 z5, .int .u32 z6, .int .u32 z7] 105)) w2.heap.size z0 z1 z2 z3 z4 z5 z6 z7 :=
  ⟨hb.alloc hb.size _, hb.size, by simp, by simp, by simp, by simp, by simp, by simp, by simp, by simp⟩
theorem bmid2 {w w2 : World} {B : Nat} (z0 z1 z2 z3 z4 z5 z6 z7 : Int) (hB : w.heap.size ≤ B) (hb : Below w.heap.size w w2) (hs : SetAt w2 B 0) : BMid w ((((((((w2.setCell ⟨B, 0, none⟩ (.int .u32 z0)).setCell ⟨B, 1, none⟩ (.int .u32 z1)).setCell ⟨B, 2, none⟩ (.int .u32 z2)).setCell ⟨B, 3, none⟩ (.int .u32 z3)).setCell ⟨B, 4, none⟩ (.int .u32 z4)).setCell ⟨B, 5, none⟩ (.int .u32 z5)).setCell ⟨B, 6, none⟩ (.int .u32 z6)).setCell ⟨B, 7, none⟩ (.int .u32 z7)) B z0 z1 z2 z3 z4 z5 z6 z7 := by
  obtain ⟨y0, y1, y2, y3, y4, y5, y6, y7, x0, x1, x2, x3, x4, x5, x6, x7⟩ := hs.at0
  have same : ∀ (U : World) (i : Nat) (u v : Value), U.cell? ⟨B, i, none⟩ = some u → (U.setCell ⟨B, i, none⟩ v).cell? ⟨B, i, none⟩ = some v := fun U i u v h => World.cell?_setCell_same _ _ _ h
  have ne : ∀ (U : World) (i j : Nat) (x : Value), i ≠ j → (U.setCell ⟨B, i, none⟩ x).cell? ⟨B, j, none⟩ = U.cell? ⟨B, j, none⟩ := fun U i j x h => setR_ne U B i j x h
  refine ⟨(((((((hb.setCell hB _).setCell hB _).setCell hB _).setCell hB _).setCell hB _).setCell hB _).setCell hB _).setCell hB _, hB, ?_, ?_, ?_, ?_, ?_, ?_, ?_, ?_⟩
  · rw [ne _ _ _ _ (by omega), ne _ _ _ _ (by omega), ne _ _ _ _ (by omega), ne _ _ _ _ (by omega), ne _ _ _ _ (by omega), ne _ _ _ _ (by omega), ne _ _ _ _ (by omega)]; exact same _ _ (.int .u32 y0) _ (by exact x0)
  · rw [ne _ _ _ _ (by omega), ne _ _ _ _ (by omega), ne _ _ _ _ (by omega), ne _ _ _ _ (by omega), ne _ _ _ _ (by omega), ne _ _ _ _ (by omega)]; exact same _ _ (.int .u32 y1) _ (by rw [ne _ _ _ _ (by omega)]; exact x1)
  · rw [ne _ _ _ _ (by omega), ne _ _ _ _ (by omega), ne _ _ _ _ (by omega), ne _ _ _ _ (by omega), ne _ _ _ _ (by omega)]; exact same _ _ (.int .u32 y2) _ (by rw [ne _ _ _ _ (by omega), ne _ _ _ _ (by omega)]; exact x2)
  · rw [ne _ _ _ _ (by omega), ne _ _ _ _ (by omega), ne _ _ _ _ (by omega), ne _ _ _ _ (by omega)]; exact same _ _ (.int .u32 y3) _ (by rw [ne _ _ _ _ (by omega), ne _ _ _ _ (by omega), ne _ _ _ _ (by omega)]; exact x3)
  · rw [ne _ _ _ _ (by omega), ne _ _ _ _ (by omega), ne _ _ _ _ (by omega)]; exact same _ _ (.int .u32 y4) _ (by rw [ne _ _ _ _ (by omega), ne _ _ _ _ (by omega), ne _ _ _ _ (by omega), ne _ _ _ _ (by omega)]; exact x4)
  · rw [ne _ _ _ _ (by omega), ne _ _ _ _ (by omega)]; exact same _ _ (.int .u32 y5) _ (by rw [ne _ _ _ _ (by omega), ne _ _ _ _ (by omega), ne _ _ _ _ (by omega), ne _ _ _ _ (by omega), ne _ _ _ _ (by omega)]; exact x5)
  · rw [ne _ _ _ _ (by omega)]; exact same _ _ (.int .u32 y6) _ (by rw [ne _ _ _ _ (by omega), ne _ _ _ _ (by omega), ne _ _ _ _ (by omega), ne _ _ _ _ (by omega), ne _ _ _ _ (by omega), ne _ _ _ _ (by omega)]; exact x6)
  · exact same _ _ (.int .u32 y7) _ (by rw [ne _ _ _ _ (by omega), ne _ _ _ _ (by omega), ne _ _ _ _ (by omega), ne _ _ _ _ (by omega), ne _ _ _ _ (by omega), ne _ _ _ _ (by omega), ne _ _ _ _ (by omega)]; exact x7)
theorem brac_below {w w2 : World} (hb : Below (w.alloc (.cells #[.int .u32 0, .int .u32 0, .int .u32 0, .int .u32 0, .int .u32 0, .int .u32 0, .int .u32 0, .int .u32 0] 105)).drew.heap.size (w.alloc (.cells #[.int .u32 0, .int .u32 0, .int .u32 0, .int .u32 0, .int .u32 0, .int .u32 0, .int .u32 0, .int .u32 0] 105)).drew w2) : Below w.heap.size w w2 :=
  ((Below.refl _ _).alloc (Nat.le_refl _) _).drew.trans (hb.mono (by simp))
set_option maxRecDepth 100000 in
set_option maxHeartbeats 3200000 in
theorem bracket_rd {w : World} {base R : Nat} {s : ByteArray} {H : Fins} {σ : St} (h : Rd w base R s H σ) (hnm : NamesIn w) (hs : s.size ≤ 60) (hp : σ.pos < s.size) (hi : σ.inner.items.length ≤ 1000) (hq : (brk s.data.toList σ.pos).2 ≤ 1000) (he : (brk s.data.toList σ.pos).1 ≤ 100) :
    Calls Tryd.prog 49 #[.pointer (some ⟨R, 0, none⟩)] w fun e w' => e = .returned (.int .i64 (brkT s.data.toList σ).1) ∧ Rd w' base R s H (brkT s.data.toList σ).2 ∧ Below R w w' := by
  have c0 := h.c0
  have c1 := h.c1
  have lR : R < w.heap.size := by have := h.hR; have := h.hb; omega
  have nR : w.heap.size ≠ R := by omega
  have Hrd := hd h
  obtain ⟨e0, q, hbk⟩ : ∃ e0 q, brk s.data.toList σ.pos = (e0, q) := ⟨_, _, rfl⟩
  rw [hbk] at hq he
  simp only at hq he
  have Hbk := hd hbk
  have f1 := h.fz 1 (by omega)
  clear h hbk
  go_enter Tryd.func49, Tryd.ntmps49
  go_wp2
  go_region_held3 (fun w' => w'.cell? ⟨R, 0, none⟩ = some (.string s) ∧ w'.cell? ⟨R, 1, none⟩ = some (.int .i64 σ.pos)) (go_keep)
    ((go_at_call 66; refine (readBracket_any s σ.pos _ (by first | exact hnm | exact hnm.alloc _) hs hp).mono ?_; rintro e w2 ⟨z0, z1, z2, z3, z4, z5, z6, z7, rfl, hw8, hb2⟩; have H8 := hd hw8; clear hw8; have nR2 : w2.heap.size ≠ R := (by have := hb2.size; simp at this; omega); have r0 : w2.cell? ⟨R, 0, none⟩ = some (.string s) := (hb2.cell (by first | exact lR | (simp; omega))).trans (by go_keep); have r1 : w2.cell? ⟨R, 1, none⟩ = some (.int .i64 σ.pos) := (hb2.cell (by first | exact lR | (simp; omega))).trans (by go_keep); first | (have hset := brac_set hb2; obtain ⟨y0, y1, y2, y3, y4, y5, y6, y7, x0, x1, x2, x3, x4, x5, x6, x7⟩ := hset.at0; obtain ⟨v0, v1, v2, v3, v4, v5, v6, v7⟩ := hset.free0) | skip))
  · have hM := bmid1 (w := w) (w2 := w2) z0 z1 z2 z3 z4 z5 z6 z7 ((Below.refl _ w).drew.trans hb2)
    clear hb2 nR2 r0 r1 c0 c1 f1
    generalize w2.alloc (.cells #[.int .u32 z0, .int .u32 z1, .int .u32 z2, .int .u32 z3, .int .u32 z4, .int .u32 z5, .int .u32 z6, .int .u32 z7] 105) = W at hM ⊢
    generalize w2.heap.size = Bs at hM ⊢
    obtain ⟨hbw, hBs, n0, n1, n2, n3, n4, n5, n6, n7⟩ := hM
    have hrdW := Hrd.out.below hbw
    have c1 := hrdW.c1
    have f1 := hrdW.fz 1 (by omega)
    have hBR : Bs ≠ R := by omega
    have HW := hd hrdW
    have HB := hd (hbw.mono (Nat.le_of_lt lR))
    clear hrdW hbw
    simp only [Hbk.out]
    by_cases he0 : e0 = 0
    · subst he0
      have Hz : Hid (brkT s.data.toList σ = (0, { σ with pos := q, inner := { σ.inner with items := σ.inner.items ++ [itOne (brkSet s.data.toList σ.pos)] } })) := by unfold brkT; rw [Hbk.out]; exact hd rfl
      have g : ∀ k, (W.setCell ⟨R, 1, none⟩ (.int .i64 q)).cell? ⟨Bs, k, none⟩ = W.cell? ⟨Bs, k, none⟩ := fun k => World.cell?_setCell_far _ _ _ _ (by show R ≠ Bs; omega)
      have m0 := (g 0).trans n0
      have m1 := (g 1).trans n1
      have m2 := (g 2).trans n2
      have m3 := (g 3).trans n3
      have m4 := (g 4).trans n4
      have m5 := (g 5).trans n5
      have m6 := (g 6).trans n6
      have m7 := (g 7).trans n7
      clear g
      go_wp2_with fail
      refine (put_rd (HW.out.moved q).1 0 (by omega) hq hi 0 z0 z1 z2 z3 z4 z5 z6 z7 0 0 0 none 0 0 (itOne (brkSet s.data.toList σ.pos)) (ok_one H _ (H8.out (by rw [Hbk.out])))).mono ?_
      rintro e w' ⟨rfl, hrd, hbw⟩
      have HR := hd hrd
      have HX := hd (HB.out.trans ((HW.out.moved q).2.trans hbw))
      clear hrd hbw
      go_wp2
      go_ret
      rw [Hz.out]
      exact ⟨rfl, HR.out, HX.out⟩
    · have Hz : Hid (brkT s.data.toList σ = (e0, { σ with pos := q })) := by unfold brkT; rw [Hbk.out, if_neg he0]; exact hd rfl
      have hb0 : ((e0 : Int) == 0) = false := by simp; omega
      clear he0
      go_wp2
      go_ret
      rw [Hz.out]
      exact ⟨rfl, (HW.out.moved q).1, HB.out.trans (HW.out.moved q).2⟩
  · have hM := bmid2 (w := w) z0 z1 z2 z3 z4 z5 z6 z7 (Nat.le_refl _) (brac_below hb2) hset
    clear hb2 nR2 r0 r1 c0 c1 f1 hset x0 x1 x2 x3 x4 x5 x6 x7 v0 v1 v2 v3 v4 v5 v6 v7
    generalize ((((((((w2.setCell ⟨w.heap.size, 0, none⟩ (.int .u32 z0)).setCell ⟨w.heap.size, 1, none⟩ (.int .u32 z1)).setCell ⟨w.heap.size, 2, none⟩ (.int .u32 z2)).setCell ⟨w.heap.size, 3, none⟩ (.int .u32 z3)).setCell ⟨w.heap.size, 4, none⟩ (.int .u32 z4)).setCell ⟨w.heap.size, 5, none⟩ (.int .u32 z5)).setCell ⟨w.heap.size, 6, none⟩ (.int .u32 z6)).setCell ⟨w.heap.size, 7, none⟩ (.int .u32 z7)) = W at hM ⊢
    generalize hBs0 : w.heap.size = Bs
    have hM2 : BMid w W Bs z0 z1 z2 z3 z4 z5 z6 z7 := by rw [← hBs0]; exact hM
    clear hBs0 hM
    obtain ⟨hbw, hBs, n0, n1, n2, n3, n4, n5, n6, n7⟩ := hM2
    have hrdW := Hrd.out.below hbw
    have c1 := hrdW.c1
    have f1 := hrdW.fz 1 (by omega)
    have hBR : Bs ≠ R := by omega
    have HW := hd hrdW
    have HB := hd (hbw.mono (Nat.le_of_lt lR))
    clear hrdW hbw
    simp only [Hbk.out]
    by_cases he0 : e0 = 0
    · subst he0
      have Hz : Hid (brkT s.data.toList σ = (0, { σ with pos := q, inner := { σ.inner with items := σ.inner.items ++ [itOne (brkSet s.data.toList σ.pos)] } })) := by unfold brkT; rw [Hbk.out]; exact hd rfl
      have g : ∀ k, (W.setCell ⟨R, 1, none⟩ (.int .i64 q)).cell? ⟨Bs, k, none⟩ = W.cell? ⟨Bs, k, none⟩ := fun k => World.cell?_setCell_far _ _ _ _ (by show R ≠ Bs; omega)
      have m0 := (g 0).trans n0
      have m1 := (g 1).trans n1
      have m2 := (g 2).trans n2
      have m3 := (g 3).trans n3
      have m4 := (g 4).trans n4
      have m5 := (g 5).trans n5
      have m6 := (g 6).trans n6
      have m7 := (g 7).trans n7
      clear g
      go_wp2_with fail
      refine (put_rd (HW.out.moved q).1 0 (by omega) hq hi 0 z0 z1 z2 z3 z4 z5 z6 z7 0 0 0 none 0 0 (itOne (brkSet s.data.toList σ.pos)) (ok_one H _ (H8.out (by rw [Hbk.out])))).mono ?_
      rintro e w' ⟨rfl, hrd, hbw⟩
      have HR := hd hrd
      have HX := hd (HB.out.trans ((HW.out.moved q).2.trans hbw))
      clear hrd hbw
      go_wp2
      go_ret
      rw [Hz.out]
      exact ⟨rfl, HR.out, HX.out⟩
    · have Hz : Hid (brkT s.data.toList σ = (e0, { σ with pos := q })) := by unfold brkT; rw [Hbk.out, if_neg he0]; exact hd rfl
      have hb0 : ((e0 : Int) == 0) = false := by simp; omega
      clear he0
      go_wp2
      go_ret
      rw [Hz.out]
      exact ⟨rfl, (HW.out.moved q).1, HB.out.trans (HW.out.moved q).2⟩
end Go.Proofs.YtknckgibfbboaaaDoor
