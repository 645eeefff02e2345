/- The document's reader: plain items, the end of a row. -/
import Derived.Test.YtjgafakfpcgpjaaDoorRItm
namespace Go.Proofs.YtjgafakfpcgpjaaDoor
open Go.RowKit

section
variable {w : World} {R P : Nat} {s : ByteArray} {H : Fins} {vo : Value} {τ : RSt} {σ : St}

theorem alloc_leaf {w : World} {k : Int} {arr : Array Value} {is : ByteArray} (h : Rg w R P s H vo τ) (h1 : arr.size = 262) (h2 : arr[0]? = some (.string is)) (h3 : isKind k is) : ItPost w (w.alloc (.cells arr 63)) R P s H vo τ w.heap.size (k, 1) :=
  leaf_post (h.alloc _) ((Kp.refl _ _ _ _).alloc _) (heap_alloc_last _ _) h1 h2 h3 h.new.2.2.2 h.new.1 h.new.2.1 h.new.2.2.1 (Nat.le_refl _)

set_option maxRecDepth 100000 in
set_option maxHeartbeats 1600000 in
theorem item_end (h : Rg w R P s H vo τ) (hS : Sim σ τ) (hs : s.size ≤ 60) (hp : σ.pos < s.size) (hx : ch s.data.toList σ.pos = 36) (hy : (decide (s.data.toList.length ≤ σ.pos + 1) || sw s.data.toList (σ.pos + 1) [92, 41]) = true) :
    Calls Tryd.prog 17 #[.pointer (some ⟨R, 0, none⟩), .int .i64 σ.pos] w fun r w' => ItmPost w w' r R P s H vo σ := by
  have c0 := h.c0
  have Hst : Hid (stepT s.data.toList σ = (0, addIt σ (2, 1) 1)) := by unfold stepT; rw [if_neg (by omega), if_neg (by omega), if_neg (by omega), if_neg (by omega), if_pos ⟨hx, hy⟩]; exact hd rfl
  have HS := hd hS
  have Hl := hd (alloc_leaf (k := 2) (is := ⟨#[36]⟩) h (itC_size ⟨#[36]⟩ 0 none 0 0) (itC_0 _ _ _ _ _) (.inr (.inr (.inl ⟨rfl, rfl⟩))))
  have hx2 : (s[σ.pos].toNat : Int) = 36 := ch_int hp hx
  have hp' : (σ.pos : Int) < s.size := by omega
  have hp0 : (0 : Int) ≤ (σ.pos : Int) := by omega
  rw [len_data] at hy
  have HF : Hid (ItmPost w (w.alloc (.cells (itC ⟨#[36]⟩ 0 none 0 0) 63)) (.returned (.tuple #[.pointer (some ⟨w.heap.size, 0, none⟩), .int .i64 ((σ.pos : Int) + 1)])) R P s H vo σ) := hd (itm_leaf HS.out hp (by omega) (by omega) Hst.out Hl.out _ (by omega))
  clear h hS hx Hl HS Hst
  by_cases he : σ.pos + 1 = s.size
  · have hb : (((σ.pos : Int) + 1) == (s.size : Int)) = true := by simp; omega
    clear hy
    go_enter Tryd.func17, Tryd.ntmps17
    go_wp2_with (first
      | refine wp_b0 ⟨#[36]⟩ rfl rfl ?_
      | refine wp_bx (.tmp 63) ⟨#[36]⟩ 0 none 0 0 rfl rfl rfl ?_)
    exact bodyPost_ret (v := .tuple #[.pointer (some ⟨w.heap.size, 0, none⟩), .int .i64 ((σ.pos : Int) + 1)]) (by simp [results, Tryd.results17, go_sem]) rfl HF.out
  · have hb : (((σ.pos : Int) + 1) == (s.size : Int)) = false := by simp; omega
    have Hy : Hid (sw s.data.toList (σ.pos + 1) [92, 41] = true) := by
      have : ¬ s.size ≤ σ.pos + 1 := by omega
      have h2 : sw s.data.toList (σ.pos + 1) [92, 41] = true := by simpa [this] using hy
      exact hd h2
    clear hy he
    go_enter Tryd.func17, Tryd.ntmps17
    go_wp2_with (first
      | refine wp_b0 ⟨#[36]⟩ rfl rfl ?_
      | refine wp_bx (.tmp 63) ⟨#[36]⟩ 0 none 0 0 rfl rfl rfl ?_
      | (go_at_call 15; refine (starts_b s _ _ (σ.pos + 1) [92, 41] _ _ (by omega) rfl Hy.out (by omega) (by decide) (by decide) (by omega)).mono ?_; rintro e w' ⟨rfl, rfl⟩))
    exact bodyPost_ret (v := .tuple #[.pointer (some ⟨_, 0, none⟩), .int .i64 ((σ.pos : Int) + 1)]) (by simp [results, Tryd.results17, go_sem]) rfl HF.out

set_option maxRecDepth 100000 in
set_option maxHeartbeats 1600000 in
theorem item_byte (h : Rg w R P s H vo τ) (hS : Sim σ τ) (hs : s.size ≤ 60) (hp : σ.pos < s.size) (h92 : ch s.data.toList σ.pos ≠ 92) (h91 : ch s.data.toList σ.pos ≠ 91) (h46 : ch s.data.toList σ.pos ≠ 46)
    (h36 : ¬ (ch s.data.toList σ.pos = 36 ∧ (decide (s.data.toList.length ≤ σ.pos + 1) || sw s.data.toList (σ.pos + 1) [92, 41]) = true)) (h94 : ¬ (ch s.data.toList σ.pos = 94 ∧ σ.inner.items = [])) (h42 : ¬ (ch s.data.toList σ.pos = 42 ∧ canB σ.inner.items = true)) :
    Calls Tryd.prog 17 #[.pointer (some ⟨R, 0, none⟩), .int .i64 σ.pos] w fun r w' => ItmPost w w' r R P s H vo σ := by
  have c0 := h.c0
  have Hst : Hid (stepT s.data.toList σ = (0, addIt σ (0, 1) 1)) := by unfold stepT; rw [if_neg h92, if_neg h91, if_neg h46, if_neg h94, if_neg h36, if_neg h42]; exact hd rfl
  have HS := hd hS
  have Hl := hd (fun (arr : Array Value) (h1 : arr.size = 262) (h2 : arr[0]? = some (.string ⟨#[98, 121, 116, 101]⟩)) => alloc_leaf (k := 0) h h1 h2 (.inl ⟨rfl, rfl⟩))
  have n92 : ((s[σ.pos].toNat : Int) == 92) = false := ch_ne hp h92
  have n91 : ((s[σ.pos].toNat : Int) == 91) = false := ch_ne hp h91
  have n46 : ((s[σ.pos].toNat : Int) == 46) = false := ch_ne hp h46
  have n92' : ((s[σ.pos].toNat : Int) != 92) = true := by simp [bne]; simpa using n92
  have hlt := UInt8.toNat_lt s[σ.pos]
  have hp' : (σ.pos : Int) < s.size := by omega
  have hp0 : (0 : Int) ≤ (σ.pos : Int) := by omega
  have Hb := hd (byteItem_any s[σ.pos].toNat)
  clear h hS h94 h42 h92 h91 h46
  by_cases hx : ch s.data.toList σ.pos = 36
  · have hx2 : ((s[σ.pos].toNat : Int) == 36) = true := by rw [ch_int hp hx]; rfl
    have hy : (decide (s.data.toList.length ≤ σ.pos + 1) || sw s.data.toList (σ.pos + 1) [92, 41]) = false := by
      cases hh : (decide (s.data.toList.length ≤ σ.pos + 1) || sw s.data.toList (σ.pos + 1) [92, 41])
      · rfl
      · exact absurd ⟨hx, hh⟩ h36
    rw [len_data] at hy
    simp only [Bool.or_eq_false_iff, decide_eq_false_iff_not] at hy
    have hb : (((σ.pos : Int) + 1) == (s.size : Int)) = false := by simp; omega
    have Hy := hd hy.2
    clear hy h36 hx
    go_enter Tryd.func17, Tryd.ntmps17
    go_wp2_with (first
      | (go_at_call 15; refine (starts_b s _ _ (σ.pos + 1) [92, 41] _ _ (by omega) rfl Hy.out (by omega) (by decide) (by decide) (by omega)).mono ?_; rintro e w' ⟨rfl, rfl⟩)
      | (go_at_call 30; refine (Hb.out _ hlt).mono ?_; rintro e w' ⟨rfl, arr, rfl, a1, a2⟩))
    refine bodyPost_ret (v := .tuple #[.pointer (some ⟨_, 0, none⟩), .int .i64 ((σ.pos : Int) + 1)]) (by simp [results, Tryd.results17, go_sem]; rfl) rfl ?_
    exact itm_leaf HS.out hp (by omega) (by omega) Hst.out (Hl.out arr a1 a2) _ (by omega)
  · have hx2 : ((s[σ.pos].toNat : Int) == 36) = false := by have := ch_ne hp hx; simpa using this
    clear h36 hx
    go_enter Tryd.func17, Tryd.ntmps17
    go_wp2_with ((go_at_call 30; refine (Hb.out _ hlt).mono ?_; rintro e w' ⟨rfl, arr, rfl, a1, a2⟩))
    refine bodyPost_ret (v := .tuple #[.pointer (some ⟨_, 0, none⟩), .int .i64 ((σ.pos : Int) + 1)]) (by simp [results, Tryd.results17, go_sem]; rfl) rfl ?_
    exact itm_leaf HS.out hp (by omega) (by omega) Hst.out (Hl.out arr a1 a2) _ (by omega)
end
end Go.Proofs.YtjgafakfpcgpjaaDoor
