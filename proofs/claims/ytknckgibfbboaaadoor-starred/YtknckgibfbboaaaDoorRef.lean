import Derived.Test.YtknckgibfbboaaaDoorBrk
import Derived.Test.YtknckgibfbboaaaDoorClose
import Derived.Test.YtknckgibfbboaaaDoorIvl
namespace Go.Proofs.YtknckgibfbboaaaDoor
open Go.RowKit

/-- the reader behind a change of its plain cells -/
theorem Rd.scal {w W : World} {base R : Nat} {s : ByteArray} {H : Fins} {σ σ' : St} {pl : List Nat} (h : Rd w base R s H σ) (hch : Ch w W R none pl) (n4 : 4 ∉ pl) (n5 : 5 ∉ pl) (hin : σ'.inner.items = σ.inner.items) (hout' : σ'.outer = σ.outer)
    (c0 : W.cell? ⟨R, 0, none⟩ = some (.string s)) (c1 : W.cell? ⟨R, 1, none⟩ = some (.int .i64 σ'.pos)) (c2 : W.cell? ⟨R, 2, none⟩ = some (.int .i64 σ'.inner.number)) (c3 : W.cell? ⟨R, 3, none⟩ = some (.int .i64 σ'.inner.start)) (c6 : W.cell? ⟨R, 6, none⟩ = some (.int .i64 σ'.groups))
    (c7 : ∀ i, i < 10 → W.cell? ⟨R, 7 + i, none⟩ = some (.bool (σ'.closed i))) (c17 : ∀ i, i < 10 → W.cell? ⟨R, 17 + i, none⟩ = some (.bool (σ'.referred i))) (c27 : W.cell? ⟨R, 27, none⟩ = some (.int .i64 σ'.refs)) : Rd W base R s H σ' ∧ Below R w W := by
  have hR := h.hR
  have hb := h.hb
  have blk : ∀ k, base ≤ k → k < w.heap.size → W.heap[k]? = w.heap[k]? := fun k h1 h2 => hch.block k h2 (by omega) (by simp)
  obtain ⟨vi, vo, rs, h4, h5, ⟨cs, hcs, hown⟩, ho, hout, hap⟩ := h.rows
  refine ⟨⟨hR, Nat.le_trans hb hch.size, c0, c1, c2, c3, c6, c7, c17, c27, fun i hi => (hch.frozen i).trans (h.fz i hi), fun k arr hk => (blk k (h.finb k arr hk) (h.fin.lt hk)).trans (h.fin k arr hk), h.finb, ?_⟩, hch.below (by omega) (fun k hk => by cases hk)⟩
  rw [hin, hout']
  exact ⟨vi, vo, rs, (hch.cell 4 n4).trans h4, (hch.cell 5 n5).trans h5, ⟨cs, hcs, owns_same hown (fun k hk => blk k (hown.lt k hk).1 (hown.lt k hk).2)⟩, owns_same ho (fun k hk => blk k (ho.lt k hk).1 (ho.lt k hk).2), hout.same (fun v hv k hk => blk k (hout.lt v hv k hk).1 (hout.lt v hv k hk).2), hap⟩
theorem setR_ne (U : World) (R i j : Nat) (x : Value) (h : i ≠ j) : (U.setCell ⟨R, i, none⟩ x).cell? ⟨R, j, none⟩ = U.cell? ⟨R, j, none⟩ := World.cell?_setCell_other _ _ _ _ (by rintro e; cases e; exact h rfl)
theorem Rd.moved {w : World} {base R : Nat} {s : ByteArray} {H : Fins} {σ : St} (h : Rd w base R s H σ) (q : Nat) : Rd (w.setCell ⟨R, 1, none⟩ (.int .i64 q)) base R s H { σ with pos := q } ∧ Below R w (w.setCell ⟨R, 1, none⟩ (.int .i64 q)) := by
  refine h.scal (pl := [1]) ((Ch.refl _ _ _ _).put 1 (by simp) _) (by simp) (by simp) rfl rfl ?_ (World.cell?_setCell_same _ _ _ h.c1) ?_ ?_ ?_ ?_ ?_ ?_
  · rw [setR_ne _ _ _ _ _ (by omega)]; exact h.c0
  · rw [setR_ne _ _ _ _ _ (by omega)]; exact h.c2
  · rw [setR_ne _ _ _ _ _ (by omega)]; exact h.c3
  · rw [setR_ne _ _ _ _ _ (by omega)]; exact h.c6
  · intro i hi; rw [setR_ne _ _ _ _ _ (by omega)]; exact h.c7 i hi
  · intro i hi; rw [setR_ne _ _ _ _ _ (by omega)]; exact h.c17 i hi
  · rw [setR_ne _ _ _ _ _ (by omega)]; exact h.c27
theorem Rd.referredTo {w : World} {base R : Nat} {s : ByteArray} {H : Fins} {σ : St} (h : Rd w base R s H σ) (n : Nat) (hn : n ≤ 9) :
    Rd ((w.setCell ⟨R, 17 + n, none⟩ (.bool true)).setCell ⟨R, 27, none⟩ (.int .i64 ((σ.refs : Int) + 1))) base R s H { σ with referred := fun i => if i = n then true else σ.referred i, refs := σ.refs + 1 } ∧ Below R w ((w.setCell ⟨R, 17 + n, none⟩ (.bool true)).setCell ⟨R, 27, none⟩ (.int .i64 ((σ.refs : Int) + 1))) := by
  refine h.scal (pl := [17 + n, 27]) (((Ch.refl _ _ _ _).put (17 + n) (by simp) _).put 27 (by simp) _) (by simp; omega) (by simp; omega) rfl rfl ?_ ?_ ?_ ?_ ?_ ?_ ?_ ?_
  · rw [setR_ne _ _ _ _ _ (by omega), setR_ne _ _ _ _ _ (by omega)]; exact h.c0
  · rw [setR_ne _ _ _ _ _ (by omega), setR_ne _ _ _ _ _ (by omega)]; exact h.c1
  · rw [setR_ne _ _ _ _ _ (by omega), setR_ne _ _ _ _ _ (by omega)]; exact h.c2
  · rw [setR_ne _ _ _ _ _ (by omega), setR_ne _ _ _ _ _ (by omega)]; exact h.c3
  · rw [setR_ne _ _ _ _ _ (by omega), setR_ne _ _ _ _ _ (by omega)]; exact h.c6
  · intro i hi; rw [setR_ne _ _ _ _ _ (by omega), setR_ne _ _ _ _ _ (by omega)]; exact h.c7 i hi
  · intro i hi
    show _ = some (Value.bool (if i = n then true else σ.referred i))
    rw [setR_ne _ _ _ _ _ (by omega)]
    by_cases e : i = n
    · rw [if_pos e, e]; exact World.cell?_setCell_same _ _ _ (h.c17 n (by omega))
    · rw [if_neg e, setR_ne _ _ _ _ _ (by omega)]; exact h.c17 i hi
  · have := World.cell?_setCell_same (w.setCell ⟨R, 17 + n, none⟩ (.bool true)) ⟨R, 27, none⟩ (.int .i64 ((σ.refs : Int) + 1)) (u := .int .i64 σ.refs) (by rw [setR_ne _ _ _ _ _ (by omega)]; exact h.c27)
    simpa using this

/-- a reference: the error, or the reader's new state -/
def refT (σ : St) (n : Nat) : Nat × St :=
  if σ.groups < n ∨ σ.closed n = false then (10, σ)
  else if σ.referred n = true then (0, { σ with pos := σ.pos + 2, inner := { σ.inner with items := σ.inner.items ++ [itBack n] } })
  else if 2 ≤ σ.refs then (10, σ)
  else (0, { σ with referred := fun i => if i = n then true else σ.referred i, refs := σ.refs + 1, pos := σ.pos + 2, inner := { σ.inner with items := σ.inner.items ++ [itBack n] } })
def ww8 (a0 a1 a2 a3 a4 a5 a6 a7 : Int) : Nat → Int := fun i => match i with | 0 => a0 | 1 => a1 | 2 => a2 | 3 => a3 | 4 => a4 | 5 => a5 | 6 => a6 | _ => a7
theorem ok_plain (H : Fins) (k : Int) (a0 a1 a2 a3 a4 a5 a6 a7 num : Int) (t : Tr) (h0 : 0 ≤ k) (h1 : k ≤ 3) (ht : Plain k (ww8 a0 a1 a2 a3 a4 a5 a6 a7) num t) : ∃ d, ItemOk H d [.int .i64 k, .int .u32 a0, .int .u32 a1, .int .u32 a2, .int .u32 a3, .int .u32 a4, .int .u32 a5, .int .u32 a6, .int .u32 a7, .int .i64 num, .int .i64 0, .int .i64 0, .slice none 0 0] ⟨k, 1, t⟩ :=
  ⟨1, ww8 a0 a1 a2 a3 a4 a5 a6 a7, num, 0, 0, none, 0, 0, rfl, h0, by show k ≤ 5; omega, by show (0 : Int) ≤ 1; omega, by show (1 : Int) ≤ 202; omega, .inr (.inr ⟨by show k ≠ 4; omega, by show k ≠ 5; omega, rfl, ht⟩)⟩
theorem ok_one (H : Fins) {a0 a1 a2 a3 a4 a5 a6 a7 : Int} (f : Nat → Bool) (h : W8 a0 a1 a2 a3 a4 a5 a6 a7 f) : ∃ d, ItemOk H d [.int .i64 0, .int .u32 a0, .int .u32 a1, .int .u32 a2, .int .u32 a3, .int .u32 a4, .int .u32 a5, .int .u32 a6, .int .u32 a7, .int .i64 0, .int .i64 0, .int .i64 0, .slice none 0 0] (itOne f) := by
  refine ok_plain H 0 a0 a1 a2 a3 a4 a5 a6 a7 0 (.one f) (by omega) (by omega) (.inl ⟨rfl, f, rfl, fun i hi => ?_⟩)
  obtain ⟨h0, h1, h2, h3, h4, h5, h6, h7⟩ := h
  rcases (show i = 0 ∨ i = 1 ∨ i = 2 ∨ i = 3 ∨ i = 4 ∨ i = 5 ∨ i = 6 ∨ i = 7 by omega) with rfl | rfl | rfl | rfl | rfl | rfl | rfl | rfl <;> assumption
theorem ok_beg (H : Fins) : ∃ d, ItemOk H d [.int .i64 1, .int .u32 0, .int .u32 0, .int .u32 0, .int .u32 0, .int .u32 0, .int .u32 0, .int .u32 0, .int .u32 0, .int .i64 0, .int .i64 0, .int .i64 0, .slice none 0 0] itBeg :=
  ok_plain H 1 0 0 0 0 0 0 0 0 0 .beg (by omega) (by omega) (.inr (.inl ⟨rfl, rfl⟩))
theorem ok_fin (H : Fins) : ∃ d, ItemOk H d [.int .i64 2, .int .u32 0, .int .u32 0, .int .u32 0, .int .u32 0, .int .u32 0, .int .u32 0, .int .u32 0, .int .u32 0, .int .i64 0, .int .i64 0, .int .i64 0, .slice none 0 0] itFin :=
  ok_plain H 2 0 0 0 0 0 0 0 0 0 .fin (by omega) (by omega) (.inr (.inr (.inl ⟨rfl, rfl⟩)))
theorem ok_back (H : Fins) (n : Nat) : ∃ d, ItemOk H d [.int .i64 3, .int .u32 0, .int .u32 0, .int .u32 0, .int .u32 0, .int .u32 0, .int .u32 0, .int .u32 0, .int .u32 0, .int .i64 n, .int .i64 0, .int .i64 0, .slice none 0 0] (itBack n) :=
  ok_plain H 3 0 0 0 0 0 0 0 0 n (.back n) (by omega) (by omega) (.inr (.inr (.inr ⟨rfl, n, rfl, rfl⟩)))

set_option maxRecDepth 100000 in
set_option maxHeartbeats 1600000 in
theorem reference_rd {w : World} {base R : Nat} {s : ByteArray} {H : Fins} {σ : St} (h : Rd w base R s H σ) (n : Nat) (hn1 : 1 ≤ n) (hn9 : n ≤ 9) (hp : σ.pos ≤ 1000) (hi : σ.inner.items.length ≤ 1000) (hrf : σ.refs ≤ 2) :
    Calls Tryd.prog 65 #[.pointer (some ⟨R, 0, none⟩), .int .i64 n] w fun e w' => e = .returned (.int .i64 (refT σ n).1) ∧ Rd w' base R s H (refT σ n).2 ∧ Below R w w' := by
  have c6 := h.c6
  have c7 := h.c7 n (by omega)
  have c17 := h.c17 n (by omega)
  have c27 := h.c27
  have f17 := h.fz (17 + n) (by omega)
  have f27 := h.fz 27 (by omega)
  have n0 : (0 : Int) ≤ (n : Int) := by omega
  have n1 : (n : Int) < 10 := by omega
  by_cases hg : σ.groups < n
  · have Hz : Hid (refT σ n = (10, σ)) := by unfold refT; rw [if_pos (.inl hg)]; exact hd rfl
    go_enter Tryd.func65, Tryd.ntmps65
    go_wp2
    go_ret
    rw [Hz.out]
    exact ⟨rfl, h, Below.refl _ _⟩
  · cases hc : σ.closed n
    · have Hz : Hid (refT σ n = (10, σ)) := by unfold refT; rw [if_pos (.inr hc)]; exact hd rfl
      rw [hc] at c7
      clear hc
      go_enter Tryd.func65, Tryd.ntmps65
      go_wp2
      go_ret
      rw [Hz.out]
      exact ⟨rfl, h, Below.refl _ _⟩
    · rw [hc] at c7
      cases hr : σ.referred n
      · rw [hr] at c17
        by_cases h2 : 2 ≤ σ.refs
        · have Hz : Hid (refT σ n = (10, σ)) := by unfold refT; rw [if_neg (by simp [hc]; omega), if_neg (by simp [hr]), if_pos h2]; exact hd rfl
          clear hc hr
          go_enter Tryd.func65, Tryd.ntmps65
          go_wp2
          go_ret
          rw [Hz.out]
          exact ⟨rfl, h, Below.refl _ _⟩
        · have Hz : Hid (refT σ n = (0, { σ with referred := fun i => if i = n then true else σ.referred i, refs := σ.refs + 1, pos := σ.pos + 2, inner := { σ.inner with items := σ.inner.items ++ [itBack n] } })) := by unfold refT; rw [if_neg (by simp [hc]; omega), if_neg (by simp [hr]), if_neg h2]; exact hd rfl
          have H1 := hd (h.referredTo n hn9)
          clear hc hr
          go_enter Tryd.func65, Tryd.ntmps65
          go_wp2_with fail
          refine (put_rd H1.out.1 2 (by omega) hp hi 3 0 0 0 0 0 0 0 0 n 0 0 none 0 0 (itBack n) (ok_back H n)).mono ?_
          rintro e w' ⟨rfl, hrd, hbw⟩
          have HR := hd hrd
          have HW := hd (H1.out.2.trans hbw)
          clear hrd hbw
          go_wp2
          go_ret
          rw [Hz.out]
          exact ⟨rfl, HR.out, HW.out⟩
      · rw [hr] at c17
        have Hz : Hid (refT σ n = (0, { σ with pos := σ.pos + 2, inner := { σ.inner with items := σ.inner.items ++ [itBack n] } })) := by unfold refT; rw [if_neg (by simp [hc]; omega), if_pos hr]; exact hd rfl
        clear hc hr
        go_enter Tryd.func65, Tryd.ntmps65
        go_wp2_with fail
        refine (put_rd h 2 (by omega) hp hi 3 0 0 0 0 0 0 0 0 n 0 0 none 0 0 (itBack n) (ok_back H n)).mono ?_
        rintro e w' ⟨rfl, hrd, hbw⟩
        have HR := hd hrd
        have HW := hd hbw
        clear hrd hbw
        go_wp2
        go_ret
        rw [Hz.out]
        exact ⟨rfl, HR.out, HW.out⟩
end Go.Proofs.YtknckgibfbboaaaDoor
