/- The document's reader: a member of a bracket. -/
import Derived.Test.YtjgafakfpcgpjaaDoorRRd
import Derived.Test.YtjgafakfpcgpjaaDoorMem2
import Derived.Lib.OthersKept
import Derived.Lib.TrimU
import Derived.Deep.RegionHeld3
import Derived.BigQuiet
namespace Go.Proofs.YtjgafakfpcgpjaaDoor
open Go.RowKit

/-- a member at place i: the error and its place, or 0 and the place behind; was it a class? -/
def memT (l : List UInt8) (i : Nat) : Nat × Nat × Bool :=
  if nmB l i = true then
    match clsGo l i clsNames with
    | some k => if spB l (i + k) = true then (6, i + k, true) else (0, i + k, true)
    | none => (5, i, false)
  else if spB l (i + 1) = false then (0, i + 1, false)
  else if (nmB l (i + 2) || decide (ch l (i + 2) < ch l i)) = true then (6, i, false) else (0, i + 3, false)

/-- an item whose set is being filled -/
def BIt (w : World) (B : Nat) : Prop := ∃ arr, w.heap[B]? = some (.cells arr 63 (0, 0)) ∧ arr.size = 262 ∧ arr[0]? = some (.string ⟨#[98, 121, 116, 101]⟩) ∧ ∀ c, c < 256 → ∃ b, arr[1 + c]? = some (.bool b)
theorem BIt.same {w w' : World} {B : Nat} (h : BIt w B) (he : w'.heap[B]? = w.heap[B]?) : BIt w' B := by
  obtain ⟨arr, h1, h2⟩ := h
  exact ⟨arr, he.trans h1, h2⟩
theorem BIt.lt {w : World} {B : Nat} (h : BIt w B) : B < w.heap.size := by
  obtain ⟨arr, h1, _⟩ := h
  rcases Nat.lt_or_ge B w.heap.size with hlt | hge
  · exact hlt
  · rw [Array.getElem?_eq_none hge] at h1; cases h1
theorem BIt.cell {w : World} {B : Nat} (h : BIt w B) (c : Nat) (hc : c < 256) : ∃ b, w.cell? ⟨B, 1 + c, none⟩ = some (.bool b) := by
  obtain ⟨arr, h1, _, _, h4⟩ := h
  obtain ⟨b, hb⟩ := h4 c hc
  exact ⟨b, by rw [cell_of_row w B (1 + c) arr _ _ h1]; exact hb⟩
theorem BIt.free {w : World} {B : Nat} (h : BIt w B) (i : Nat) : w.frozen? ⟨B, i, none⟩ = false := by
  obtain ⟨arr, h1, _⟩ := h
  simp [World.frozen?, h1]
theorem heap_setCell_self {w : World} {B i : Nat} {arr : Array Value} {t : TypeId} {f : Nat × Nat} (h : w.heap[B]? = some (.cells arr t f)) (v : Value) : (w.setCell ⟨B, i, none⟩ v).heap[B]? = some (.cells (arr.setIfInBounds i v) t f) := by
  have hlt : B < w.heap.size := by
    rcases Nat.lt_or_ge B w.heap.size with hlt | hge
    · exact hlt
    · rw [Array.getElem?_eq_none hge] at h; cases h
  simp only [World.setCell, Array.getElem?_modify, if_true, h, Option.map_some]
  rfl
theorem BIt.set {w : World} {B : Nat} (h : BIt w B) (c : Nat) (hc : c < 256) (b : Bool) : BIt (w.setCell ⟨B, 1 + c, none⟩ (.bool b)) B := by
  obtain ⟨arr, h1, h2, h3, h4⟩ := h
  refine ⟨arr.setIfInBounds (1 + c) (.bool b), heap_setCell_self h1 _, by simpa using h2, by rw [Array.getElem?_setIfInBounds_ne (by omega)]; exact h3, fun d hd => ?_⟩
  by_cases e : d = c
  · subst e; exact ⟨b, by rw [Array.getElem?_setIfInBounds_self_of_lt (by omega)]⟩
  · rw [Array.getElem?_setIfInBounds_ne (by omega)]; exact h4 d hd
theorem BIt.alloc {w : World} {B : Nat} (h : BIt w B) (o : Obj) : BIt (w.alloc o) B := h.same (Below.heap_alloc _ _ _ h.lt)

/-- what stands while a bracket is read -/
structure Bk (a w : World) (R P B : Nat) (s : ByteArray) (H : Fins) (u vo : Value) (τ : RSt) : Prop where
  rg : Rg w R P s H vo τ
  it : BIt w B
  kp : Kp a w R P u vo
  nw : a.heap.size ≤ B
  nR : B ≠ R
  nP : B ≠ P
  no : vo.ownBlock ≠ some B
  nH : H B = none
section
variable {a w w' : World} {R P B : Nat} {s : ByteArray} {H : Fins} {u vo : Value} {τ : RSt}
theorem Bk.set (h : Bk a w R P B s H u vo τ) (c : Nat) (hc : c < 256) (b : Bool) : Bk a (w.setCell ⟨B, 1 + c, none⟩ (.bool b)) R P B s H u vo τ :=
  ⟨h.rg.set B _ _ h.nR h.nP h.no h.nH, h.it.set c hc b, h.kp.setNew B _ h.nw _, h.nw, h.nR, h.nP, h.no, h.nH⟩
theorem Bk.alloc (h : Bk a w R P B s H u vo τ) (o : Obj) : Bk a (w.alloc o) R P B s H u vo τ :=
  ⟨h.rg.alloc o, h.it.alloc o, h.kp.alloc o, h.nw, h.nR, h.nP, h.no, h.nH⟩
theorem Bk.drew (h : Bk a w R P B s H u vo τ) : Bk a w.drew R P B s H u vo τ := ⟨h.rg.drew, h.it, h.kp.drew, h.nw, h.nR, h.nP, h.no, h.nH⟩
theorem Bk.drewN (h : Bk a w R P B s H u vo τ) (n : Nat) : Bk a (w.drewN n) R P B s H u vo τ := ⟨h.rg.drewN n, h.it, h.kp.drewN n, h.nw, h.nR, h.nP, h.no, h.nH⟩
theorem Bk.step (h : Bk a w R P B s H u vo τ) {τ' : RSt} (hr : Rg w' R P s H vo τ') (hk : Kp w w' R P vo vo) : Bk a w' R P B s H u vo τ' :=
  ⟨hr, h.it.same (hk.block B h.it.lt h.nR h.nP h.no), h.kp.trans hk, h.nw, h.nR, h.nP, h.no, h.nH⟩
end

/-- the reader's state behind a member or a bracket -/
def errT (τ : RSt) (e p : Nat) : RSt := if e = 0 then τ else { τ with err := e, pl := p }

set_option maxHeartbeats 1600000 in
theorem member_one {a w : World} {R P B : Nat} {s : ByteArray} {H : Fins} {u vo : Value} {τ : RSt} (h : Bk a w R P B s H u vo τ) (hs : s.size ≤ 60) (p : Nat) (hp : p < s.size) (hn : nmB s.data.toList p = false) (hsp : spB s.data.toList (p + 1) = false) :
    Calls Tryd.prog 42 #[.pointer (some ⟨R, 0, none⟩), .pointer (some ⟨B, 0, none⟩), .int .i64 p] w fun r w' => r = .returned (.int .i64 ((p + 1 : Nat) : Int)) ∧ Bk a w' R P B s H u vo τ := by
  have c0 := h.rg.c0
  have hlt := UInt8.toNat_lt s[p]
  obtain ⟨b0, hb0⟩ := h.it.cell s[p].toNat hlt
  have f := h.it.free
  have Hh := hd h
  have Hn := hd hn
  have Hsp := hd hsp
  clear h hn hsp
  have hp' : (p : Int) < s.size := by omega
  go_enter Tryd.func42, Tryd.ntmps42
  go_wp2_with (first
    | (go_at_call 47; refine (named_b s _ p _ _ (by omega) Hn.out (by omega) (by omega)).mono ?_; rintro e w' ⟨rfl, rfl⟩)
    | (go_at_call 48; refine (spans_b s _ (p + 1) _ _ (by omega) Hsp.out (by omega)).mono ?_; rintro e w' ⟨rfl, rfl⟩))
  go_region
  all_goals go_wp2
  all_goals go_ret
  all_goals exact ⟨rfl, (Hh.out.set _ hlt true).drew⟩

theorem spB_get {s : ByteArray} {n : Nat} (h : spB s.data.toList n = true) : n + 1 < s.size := by
  unfold spB at h
  rw [len_data] at h
  simp at h
  exact h.1.1

set_option maxHeartbeats 1600000 in
theorem member_bad {a w : World} {R P B : Nat} {s : ByteArray} {H : Fins} {u vo : Value} {τ : RSt} (h : Bk a w R P B s H u vo τ) (h0 : τ.err = 0) (hs : s.size ≤ 60) (p : Nat) (hp : p < s.size) (hn : nmB s.data.toList p = false) (hsp : spB s.data.toList (p + 1) = true) (hb : (nmB s.data.toList (p + 2) || decide (ch s.data.toList (p + 2) < ch s.data.toList p)) = true) :
    Calls Tryd.prog 42 #[.pointer (some ⟨R, 0, none⟩), .pointer (some ⟨B, 0, none⟩), .int .i64 p] w fun r w' => r = .returned (.int .i64 p) ∧ Bk a w' R P B s H u vo { τ with err := 6, pl := p } := by
  have c0 := h.rg.c0
  have hp2 := spB_get hsp
  have Hh := hd h
  have Hn := hd hn
  have Hsp := hd hsp
  clear h hn hsp
  have hp' : (p : Int) < s.size := by omega
  have hp2' : (p : Int) + 2 < s.size := by omega
  have q0 : (0 : Int) ≤ (p : Int) + 2 := by omega
  have q1 : (0 : Int) ≤ (p : Int) := by omega
  have w2 := wrapI ((p : Int) + 2) (by omega) (by omega)
  rw [← ch_get s (p + 2) hp2, ← ch_get s p hp] at hb
  cases hn2 : nmB s.data.toList (p + 2)
  · rw [hn2] at hb
    have Hn2 := hd hn2
    clear hn2
    have hlt : s[p + 2].toNat < s[p].toNat := by simpa using hb
    have htn : ((p : Int) + 2).toNat = p + 2 := by omega
    have hdl : ∀ (h : ((p : Int) + 2).toNat < s.size), decide ((s[((p : Int) + 2).toNat]'h).toNat < s[p].toNat) = true := by
      intro h
      simp only [htn]
      simpa using hlt
    have Hlt := hd hlt
    clear hb htn hlt
    go_enter Tryd.func42, Tryd.ntmps42
    go_wp2_with (first
      | (go_at_call 47; refine (named_b s _ p _ _ (by omega) Hn.out (by omega) (by omega)).mono ?_; rintro e w' ⟨rfl, rfl⟩)
      | (go_at_call 48; refine (spans_b s _ (p + 1) _ _ (by omega) Hsp.out (by omega)).mono ?_; rintro e w' ⟨rfl, rfl⟩))
    go_quiet ((go_at_call 47; exact Calls.quiet_of_same (named_b s _ (p + 2) _ _ (by omega) Hn2.out (by omega) (by omega))))
    go_wp2_with (go_at_call 11; refine (wrong_any (Hh.out.rg.drewN nq) 6 p _ rfl h0).mono ?_; rintro e w2 ⟨rfl, hr2, hk2⟩)
    go_ret
    exact ⟨rfl, (Hh.out.drewN nq).step hr2 hk2⟩
  · have Hn2 := hd hn2
    clear hn2 hb
    go_enter Tryd.func42, Tryd.ntmps42
    go_wp2_with (first
      | (go_at_call 47; refine (named_b s _ p _ _ (by omega) Hn.out (by omega) (by omega)).mono ?_; rintro e w' ⟨rfl, rfl⟩)
      | (go_at_call 48; refine (spans_b s _ (p + 1) _ _ (by omega) Hsp.out (by omega)).mono ?_; rintro e w' ⟨rfl, rfl⟩))
    go_quiet ((go_at_call 47; exact Calls.quiet_of_same (named_b s _ (p + 2) _ _ (by omega) Hn2.out (by omega) (by omega))))
    go_wp2_with (go_at_call 11; refine (wrong_any (Hh.out.rg.drewN nq) 6 p _ rfl h0).mono ?_; rintro e w2 ⟨rfl, hr2, hk2⟩)
    go_ret
    exact ⟨rfl, (Hh.out.drewN nq).step hr2 hk2⟩

set_option maxHeartbeats 1600000 in
theorem member_range {a w : World} {R P B : Nat} {s : ByteArray} {H : Fins} {u vo : Value} {τ : RSt} (h : Bk a w R P B s H u vo τ) (hs : s.size ≤ 60) (p : Nat) (hp : p < s.size) (hn : nmB s.data.toList p = false) (hsp : spB s.data.toList (p + 1) = true) (hb : (nmB s.data.toList (p + 2) || decide (ch s.data.toList (p + 2) < ch s.data.toList p)) = false) :
    Calls Tryd.prog 42 #[.pointer (some ⟨R, 0, none⟩), .pointer (some ⟨B, 0, none⟩), .int .i64 p] w fun r w' => r = .returned (.int .i64 ((p + 3 : Nat) : Int)) ∧ Bk a w' R P B s H u vo τ := by
  have c0 := h.rg.c0
  have hp2 := spB_get hsp
  have Hh := hd h
  have Hn := hd hn
  have Hsp := hd hsp
  clear h hn hsp
  have hp' : (p : Int) < s.size := by omega
  have hp2' : (p : Int) + 2 < s.size := by omega
  have q0 : (0 : Int) ≤ (p : Int) + 2 := by omega
  have q1 : (0 : Int) ≤ (p : Int) := by omega
  have w2 := wrapI ((p : Int) + 2) (by omega) (by omega)
  rw [← ch_get s (p + 2) hp2, ← ch_get s p hp] at hb
  simp only [Bool.or_eq_false_iff, decide_eq_false_iff_not] at hb
  have Hn2 := hd hb.1
  have Hlt := hd hb.2
  have htn : ((p : Int) + 2).toNat = p + 2 := by omega
  have hdl : ∀ (h : ((p : Int) + 2).toNat < s.size), decide ((s[((p : Int) + 2).toNat]'h).toNat < s[p].toNat) = false := by
    intro h
    simp only [htn]
    simpa using Hlt.out
  clear hb htn
  have hx := UInt8.toNat_lt s[p]
  have hy := UInt8.toNat_lt s[p + 2]
  go_enter Tryd.func42, Tryd.ntmps42
  go_wp2_with (first
    | (go_at_call 47; refine (named_b s _ p _ _ (by omega) Hn.out (by omega) (by omega)).mono ?_; rintro e w' ⟨rfl, rfl⟩)
    | (go_at_call 48; refine (spans_b s _ (p + 1) _ _ (by omega) Hsp.out (by omega)).mono ?_; rintro e w' ⟨rfl, rfl⟩))
  go_quiet ((go_at_call 47; exact Calls.quiet_of_same (named_b s _ (p + 2) _ _ (by omega) Hn2.out (by omega) (by omega))))
  go_wp2_with fail
  have Hh2 := hd (Hh.out.drewN nq)
  have hsc := Hlt.out
  clear Hh c0 hdl
  generalize World.drewN _ nq = W at *
  go_loopg [12] 300 (fun k c wr => ∃ n : Nat, c = .int .i64 n ∧ s[p].toNat ≤ n ∧ n ≤ s[p + 2].toNat + 1 ∧ s[p + 2].toNat < n + k ∧ Hid (Bk a wr R P B s H u vo τ))
  case atStart => exact ⟨s[p].toNat, by go_num, by omega, by omega, by omega, Hh2⟩
  case round =>
    obtain ⟨n, rfl, hn1, hn2, hnk, Hb⟩ := hrel
    by_cases hlt : n ≤ s[p + 2].toNat
    · obtain ⟨b0, hb0⟩ := Hb.out.it.cell n (by omega)
      have f := Hb.out.it.free
      have hlt' : (n : Int) ≤ (s[p + 2].toNat : Int) := by omega
      obtain ⟨g, rfl⟩ : ∃ g, gk = g + 1 := ⟨gk - 1, by omega⟩
      go_wp2
      go_roundg g
      case measure => omega
      case rel => exact ⟨n + 1, by go_num, by omega, by omega, by omega, hd (Hb.out.set n (by omega) true)⟩
    · have hlt' : ¬ (n : Int) ≤ (s[p + 2].toNat : Int) := by omega
      go_wp2
      go_ret
      exact ⟨rfl, Hb.out⟩
end Go.Proofs.YtjgafakfpcgpjaaDoor
