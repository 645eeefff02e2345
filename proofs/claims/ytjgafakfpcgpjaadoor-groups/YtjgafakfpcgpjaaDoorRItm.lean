/- The document's reader: an item. -/
import Derived.Test.YtjgafakfpcgpjaaDoorRSim
namespace Go.Proofs.YtjgafakfpcgpjaaDoor
open Go.RowKit

def ItmPost (w w' : World) (r : Ending) (R P : Nat) (s : ByteArray) (H : Fins) (vo : Value) (σ : St) : Prop :=
  ∃ (b j : Nat) (it : Int × Int) (τ' : RSt), r = .returned (.tuple #[.pointer (some ⟨b, 0, none⟩), .int .i64 j]) ∧ ItPost w w' R P s H vo τ' b it ∧ σ.pos < j ∧ j ≤ s.size ∧ (it.1 ≠ 1 ∧ it.2 ≤ 21002 * ((j - σ.pos : Nat) : Int)) ∧ Res s.data.toList σ j τ' (KIt σ it)

section
variable {w : World} {R P : Nat} {s : ByteArray} {H : Fins} {vo : Value} {τ : RSt} {σ : St}

set_option maxRecDepth 100000 in
set_option maxHeartbeats 1600000 in
theorem item_brk (h : Rg w R P s H vo τ) (hS : Sim σ τ) (hC : ClsH H) (hs : s.size ≤ 60) (hp : σ.pos < s.size) (hx : ch s.data.toList σ.pos = 91) :
    Calls Tryd.prog 17 #[.pointer (some ⟨R, 0, none⟩), .int .i64 σ.pos] w fun r w' => ItmPost w w' r R P s H vo σ := by
  have c0 := h.c0
  rcases hq : brk s.data.toList σ.pos with ⟨e0, q0⟩
  have Hb := hd (fun i hi => rbracket_any h hS.err hC hs σ.pos i hi hp e0 q0 hq)
  have Hfin : Hid (∀ w' : World, ItPost w w' R P s H vo (errT τ e0 q0) w.heap.size (0, 1) → ItmPost w w' (.returned (.tuple #[.pointer (some ⟨w.heap.size, 0, none⟩), .int .i64 (brkPl s.data.toList e0 q0)])) R P s H vo σ) := by
    intro w' hi
    have hl := len_data s
    have hst : stepT s.data.toList σ = brkT s.data.toList σ := by unfold stepT; rw [if_neg (by omega), if_pos hx]
    by_cases he : e0 = 0
    · subst he
      have hb0 := brk_bd (by omega) hq
      have hb : σ.pos < q0 ∧ q0 ≤ s.data.toList.length := ⟨hb0.2.2 rfl, hb0.2.1⟩
      refine ⟨w.heap.size, q0, (0, 1), τ, rfl, hi, hb.1, by omega, ⟨by decide, by show (1 : Int) ≤ _; omega⟩, .inl ⟨{ σ with pos := q0, inner := { σ.inner with items := σ.inner.items ++ [(0, 1)] } }, Reach.step (by omega) (hst.trans (by unfold brkT; rw [hq]; rfl)) hb.1, ?_, rfl, rfl, rfl, rfl, (0, 1), rfl, rfl, .inl ⟨by simp, rfl⟩, by simp, by simp⟩⟩
      exact ⟨hS.done, hS.used, by rw [hS.opens]; simp [opn], hS.groups, hS.err, hS.g9, hS.cl, hS.rf, hS.r2, hS.num, hS.nums, hS.ol⟩
    · refine ⟨w.heap.size, s.data.toList.length, (0, 1), errT τ e0 q0, by unfold brkPl; rw [if_neg he], hi, by omega, by omega, ⟨by decide, by show (1 : Int) ≤ _; omega⟩, res_err (σ' := { σ with pos := q0 }) (by omega) (hst.trans (by unfold brkT; rw [hq]; simp [he])) he rfl (by rw [errT_ne _ _ he]) (by rw [errT_ne _ _ he])⟩
  have hx2 : (s[σ.pos].toNat : Int) = 91 := by rw [ch_get s _ hp, hx]; rfl
  have hp' : (σ.pos : Int) < s.size := by omega
  have hp0 : (0 : Int) ≤ (σ.pos : Int) := by omega
  clear hq h hS hx
  go_enter Tryd.func17, Tryd.ntmps17
  go_wp2_with (go_at_call 29; refine (Hb.out _ rfl).mono ?_; rintro e w2 ⟨rfl, hi2⟩)
  refine bodyPost_ret (v := .tuple #[.pointer (some ⟨w.heap.size, 0, none⟩), .int .i64 (brkPl s.data.toList e0 q0)]) (by simp [results, Tryd.results17, go_sem]) rfl (Hfin.out _ hi2)

theorem ch_int {s : ByteArray} {p k : Nat} (hp : p < s.size) (h : ch s.data.toList p = k) : (s[p].toNat : Int) = k := by rw [ch_get s p hp, h]
theorem ch_ne {s : ByteArray} {p k : Nat} (hp : p < s.size) (h : ch s.data.toList p ≠ k) : ((s[p].toNat : Int) == (k : Int)) = false := by rw [ch_get s p hp]; simp; omega

/-- a leaf that is ready, behind the reading of a plain sign -/
theorem itm_leaf {w w' : World} {k : Int} {wd b : Nat} (hS : Sim σ τ) (hp : σ.pos < s.size) (hw : 0 < wd) (hle : σ.pos + wd ≤ s.size) (hst : stepT s.data.toList σ = (0, addIt σ (k, 1) wd)) (hi : ItPost w w' R P s H vo τ b (k, 1)) (i : Int) (hij : i = ((σ.pos + wd : Nat) : Int)) (hk1 : k ≠ 1 := by decide) :
    ItmPost w w' (.returned (.tuple #[.pointer (some ⟨b, 0, none⟩), .int .i64 i])) R P s H vo σ := by
  subst hij
  have hl := len_data s
  exact ⟨b, σ.pos + wd, (k, 1), τ, rfl, hi, by omega, hle, ⟨hk1, by show (1 : Int) ≤ _; omega⟩, res_add hS (by omega) k wd hw hst⟩

set_option maxRecDepth 100000 in
set_option maxHeartbeats 1600000 in
theorem item_dot (h : Rg w R P s H vo τ) (hS : Sim σ τ) (hs : s.size ≤ 60) (hp : σ.pos < s.size) (hx : ch s.data.toList σ.pos = 46) :
    Calls Tryd.prog 17 #[.pointer (some ⟨R, 0, none⟩), .int .i64 σ.pos] w fun r w' => ItmPost w w' r R P s H vo σ := by
  have c0 := h.c0
  have Hst : Hid (stepT s.data.toList σ = (0, addIt σ (0, 1) 1)) := by unfold stepT; rw [if_neg (by omega), if_neg (by omega), if_pos hx]; exact hd rfl
  have HS := hd hS
  have Hbk := hd h.bk
  have hx2 : (s[σ.pos].toNat : Int) = 46 := ch_int hp hx
  have hp' : (σ.pos : Int) < s.size := by omega
  have hp0 : (0 : Int) ≤ (σ.pos : Int) := by omega
  clear h hS hx
  go_enter Tryd.func17, Tryd.ntmps17
  go_wp2_with (first
    | refine wp_b0 ⟨#[98, 121, 116, 101]⟩ rfl rfl ?_
    | refine wp_bx (.tmp 31) ⟨#[98, 121, 116, 101]⟩ 0 none 0 0 rfl rfl rfl ?_)
  generalize hW : w.alloc (.cells (itC ⟨#[98, 121, 116, 101]⟩ 0 none 0 0) 63) = W at *
  have Hw := hd hW
  clear hW c0 hx2
  obtain ⟨B, hB⟩ : ∃ B, w.heap.size = B := ⟨_, rfl⟩
  have HB := hd hB
  rw [hB] at Hbk
  simp only [hB]
  clear hB
  go_loopg [8, 33] 257 (fun f _ c wx => ∃ n : Nat, c = .int .i64 n ∧ n ≤ 256 ∧ 256 < n + f ∧ Hid (Bk w wx R P B s H vo vo τ))
  case atStart => exact ⟨0, rfl, by omega, by omega, Hbk⟩
  case round =>
    obtain ⟨n, rfl, hn1, hn2, Hb⟩ := hrel
    by_cases hn : n < 256
    · obtain ⟨b0, hb0⟩ := Hb.out.it.cell n hn
      have fz := Hb.out.it.free
      obtain ⟨g2, rfl⟩ : ∃ g2, gk = g2 + 1 := ⟨gk - 1, by omega⟩
      go_wp2
      go_roundg g2
      case measure => omega
      case rel => exact ⟨n + 1, by go_num, by omega, by omega, hd (Hb.out.set n hn _)⟩
    · go_wp2
      refine bodyPost_ret (v := .tuple #[.pointer (some ⟨B, 0, none⟩), .int .i64 ((σ.pos : Int) + 1)]) (by simp [results, Tryd.results17, go_sem]) rfl ?_
      exact itm_leaf HS.out hp (by omega) (by omega) Hst.out Hb.out.done _ (by omega)
end
end Go.Proofs.YtjgafakfpcgpjaaDoor
