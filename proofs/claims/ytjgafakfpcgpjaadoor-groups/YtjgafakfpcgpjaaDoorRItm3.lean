/- The document's reader: what stands behind a backslash. -/
import Derived.Test.YtjgafakfpcgpjaaDoorRItm2
import Derived.Lib.SmallJoins
namespace Go.Proofs.YtjgafakfpcgpjaaDoor
open Go.RowKit

def spL : List Nat := [46, 91, 93, 42, 94, 36, 92]
def spv (n : Nat) : Nat := spL.getD n 0
def spCells : Array Value := #[.int .u8 46, .int .u8 91, .int .u8 93, .int .u8 42, .int .u8 94, .int .u8 36, .int .u8 92]
theorem spCells_at (n : Nat) (h : n < 7) : spCells[n]? = some (.int .u8 (spv n)) := by
  rcases (show n = 0 ∨ n = 1 ∨ n = 2 ∨ n = 3 ∨ n = 4 ∨ n = 5 ∨ n = 6 by omega) with rfl | rfl | rfl | rfl | rfl | rfl | rfl <;> rfl
theorem spv_lt (n : Nat) (h : n < 7) : spv n < 256 := by
  rcases (show n = 0 ∨ n = 1 ∨ n = 2 ∨ n = 3 ∨ n = 4 ∨ n = 5 ∨ n = 6 by omega) with rfl | rfl | rfl | rfl | rfl | rfl | rfl <;> decide
theorem spv_mem (n : Nat) (h : n < 7) : spv n ∈ [46, 91, 93, 42, 94, 36, 92] := by
  rcases (show n = 0 ∨ n = 1 ∨ n = 2 ∨ n = 3 ∨ n = 4 ∨ n = 5 ∨ n = 6 by omega) with rfl | rfl | rfl | rfl | rfl | rfl | rfl <;> decide
theorem spv_all {c : Nat} (h : ∀ j, j < 7 → c ≠ spv j) : c ∉ [46, 91, 93, 42, 94, 36, 92] := by
  have h0 := h 0 (by omega)
  have h1 := h 1 (by omega)
  have h2 := h 2 (by omega)
  have h3 := h 3 (by omega)
  have h4 := h 4 (by omega)
  have h5 := h 5 (by omega)
  have h6 := h 6 (by omega)
  simp [spv, spL] at h0 h1 h2 h3 h4 h5 h6
  simp; omega

theorem uBytes : Tryd.prog.underlying 89 = some (.slice 5) := by kernel_rfl
theorem uByte : Tryd.prog.underlying 5 = some (.int .u8) := by kernel_rfl
theorem run_cv (w : World) : (convert 89 89 (.slice (some ⟨w.heap.size, 0, none⟩) 7 7)).run Tryd.prog (w.alloc (.cells #[.int .u8 46, .int .u8 91, .int .u8 93, .int .u8 42, .int .u8 94, .int .u8 36, .int .u8 92] 5)) = .ok (.slice (some ⟨w.heap.size, 0, none⟩) 7 7) (w.alloc (.cells #[.int .u8 46, .int .u8 91, .int .u8 93, .int .u8 42, .int .u8 94, .int .u8 36, .int .u8 92] 5 (7, 8))) :=
  Joins.run_convert_bytes_const_at w _ _ #[.int .u8 46, .int .u8 91, .int .u8 93, .int .u8 42, .int .u8 94, .int .u8 36, .int .u8 92] 7 7 _ rfl uBytes uByte

theorem sp_more {c n : Nat} (h : ∀ j, j < n → c ≠ spv j) (hn : c ≠ spv n) : ∀ j, j < n + 1 → c ≠ spv j := by
  intro j hj
  by_cases e : j = n
  · subst e; exact hn
  · exact h j (by omega)
section
variable {w : World} {R P : Nat} {s : ByteArray} {H : Fins} {vo : Value} {τ : RSt} {σ : St}

theorem step_bs (hx : ch s.data.toList σ.pos = 92) : stepT s.data.toList σ = escT s.data.toList σ := by unfold stepT; rw [if_pos hx]
theorem esc_end (hx : ch s.data.toList σ.pos = 92) (h : s.size ≤ σ.pos + 1) : stepT s.data.toList σ = (3, σ) := by
  rw [step_bs hx]; unfold escT; rw [if_pos (by rw [len_data]; exact h)]
theorem esc_sp (hx : ch s.data.toList σ.pos = 92) (h : ¬ s.size ≤ σ.pos + 1) (h40 : ch s.data.toList (σ.pos + 1) ≠ 40) (h41 : ch s.data.toList (σ.pos + 1) ≠ 41) (h123 : ch s.data.toList (σ.pos + 1) ≠ 123) (hdg : ¬ (49 ≤ ch s.data.toList (σ.pos + 1) ∧ ch s.data.toList (σ.pos + 1) ≤ 57)) :
    stepT s.data.toList σ = if ch s.data.toList (σ.pos + 1) ∈ [46, 91, 93, 42, 94, 36, 92] then (0, addIt σ (0, 1) 2) else (3, σ) := by
  rw [step_bs hx]; unfold escT; rw [if_neg (by rw [len_data]; exact h), if_neg h40, if_neg h41, if_neg h123, if_neg hdg]

/-- an error's item -/
theorem itm_err {w w2 : World} {arr : Array Value} {e : Nat} (hr : Rg w2 R P s H vo { τ with err := e, pl := σ.pos }) (hk : Kp w w2 R P vo vo) (h1 : arr.size = 262) (h2 : arr[0]? = some (.string ⟨#[98, 121, 116, 101]⟩)) (he : e ≠ 0) (hp : σ.pos < s.size) (hst : stepT s.data.toList σ = (e, σ)) :
    ItmPost w (w2.alloc (.cells arr 63)) (.returned (.tuple #[.pointer (some ⟨w2.heap.size, 0, none⟩), .int .i64 s.size])) R P s H vo σ := by
  have hl := len_data s
  refine ⟨w2.heap.size, s.size, (0, 1), _, rfl, leaf_post (hr.alloc _) (hk.alloc _) (heap_alloc_last _ _) h1 h2 (.inl ⟨rfl, rfl⟩) hr.new.2.2.2 hr.new.1 hr.new.2.1 hr.new.2.2.1 hk.size, hp, Nat.le_refl _, ⟨by decide, by show (1 : Int) ≤ _; omega⟩, res_err (by omega) hst he rfl rfl rfl⟩

set_option maxRecDepth 100000 in
set_option maxHeartbeats 3200000 in
theorem item_sp (h : Rg w R P s H vo τ) (hS : Sim σ τ) (hs : s.size ≤ 60) (hp : σ.pos < s.size) (hx : ch s.data.toList σ.pos = 92)
    (h40 : σ.pos + 1 < s.size → ch s.data.toList (σ.pos + 1) ≠ 40) (h41 : σ.pos + 1 < s.size → ch s.data.toList (σ.pos + 1) ≠ 41) (h123 : σ.pos + 1 < s.size → ch s.data.toList (σ.pos + 1) ≠ 123) (hdg : σ.pos + 1 < s.size → ¬ (49 ≤ ch s.data.toList (σ.pos + 1) ∧ ch s.data.toList (σ.pos + 1) ≤ 57)) :
    Calls Tryd.prog 17 #[.pointer (some ⟨R, 0, none⟩), .int .i64 σ.pos] w fun r w' => ItmPost w w' r R P s H vo σ := by
  have c0 := h.c0
  have HS := hd hS
  have Hh := hd h
  have Hl := hd (len_data s)
  have hx2 : (s[σ.pos].toNat : Int) = 92 := ch_int hp hx
  have hp' : (σ.pos : Int) < s.size := by omega
  have hp0 : (0 : Int) ≤ (σ.pos : Int) := by omega
  have h0 := hS.err
  have Hsw : Hid (sw s.data.toList σ.pos [92, 40] = false) := by
    rw [sw2, len_data]
    by_cases h1 : σ.pos + 1 < s.size
    · have := h40 h1
      have e : (ch s.data.toList (σ.pos + 1) == (40 : UInt8).toNat) = false := by simpa using this
      rw [e]; simp; trivial
    · simp [h1]; trivial
  by_cases h1 : σ.pos + 1 < s.size
  · have Hst := hd (esc_sp hx (by omega) (h40 h1) (h41 h1) (h123 h1) (hdg h1))
    have hdg' := hdg h1
    have hcg := ch_get s (σ.pos + 1) h1
    have hp1 : (σ.pos : Int) + 1 < s.size := by omega
    have hq0 : (0 : Int) ≤ (σ.pos : Int) + 1 := by omega
    have Hcg := hd hcg
    rw [← hcg] at hdg'
    have hdd : (s[σ.pos + 1].toNat : Int) < 49 ∨ 57 < (s[σ.pos + 1].toNat : Int) := by omega
    clear h hS hx h40 h41 h123 hdg hdg' hcg
    have hcv := run_cv
    have HF1 : Hid (∀ (wx : World) (arr : Array Value) (n : Nat), Rg wx R P s H vo τ → Kp w wx R P vo vo → arr.size = 262 → arr[0]? = some (.string ⟨#[98, 121, 116, 101]⟩) → n < 7 → ch s.data.toList (σ.pos + 1) = spv n → ItmPost w (wx.alloc (.cells arr 63)) (.returned (.tuple #[.pointer (some ⟨wx.heap.size, 0, none⟩), .int .i64 ((σ.pos : Int) + 2)])) R P s H vo σ) := by
      intro wx arr n hr hk a1 a2 hn hc
      refine itm_leaf HS.out hp (by omega) (by omega) (Hst.out.trans (if_pos (by rw [hc]; exact spv_mem n hn))) (leaf_post (hr.alloc _) (hk.alloc _) (heap_alloc_last _ _) a1 a2 (.inl ⟨rfl, rfl⟩) hr.new.2.2.2 hr.new.1 hr.new.2.1 hr.new.2.2.1 hk.size) _ (by omega)
    have HF2 : Hid ((∀ j, j < 7 → ch s.data.toList (σ.pos + 1) ≠ spv j) → stepT s.data.toList σ = (3, σ)) := hd fun hh => Hst.out.trans (if_neg (spv_all hh))
    clear Hst
    rcases hdd with hdd | hdd
    all_goals
      go_enter Tryd.func17, Tryd.ntmps17
      go_wp2_with (go_at_call 15; refine (starts_b s _ _ σ.pos [92, 40] _ _ (by omega) rfl Hsw.out (by omega) (by decide) (by decide) (by omega)).mono ?_; rintro e w' ⟨rfl, rfl⟩)
      have hcell : ∀ n, n < 7 → (w'.alloc (.cells #[.int .u8 46, .int .u8 91, .int .u8 93, .int .u8 42, .int .u8 94, .int .u8 36, .int .u8 92] 5 (7, 8))).cell? ⟨w'.heap.size, n, none⟩ = some (.int .u8 (spv n)) := fun n hn => by
        rw [Joins.cell_alloc_mark_at _ _ _ _ _ n rfl]; exact spCells_at n hn
      have Hr := hd (Hh.out.alloc (.cells #[.int .u8 46, .int .u8 91, .int .u8 93, .int .u8 42, .int .u8 94, .int .u8 36, .int .u8 92] 5 (7, 8)))
      have Hk := hd ((Kp.refl w' R P vo).alloc (.cells #[.int .u8 46, .int .u8 91, .int .u8 93, .int .u8 42, .int .u8 94, .int .u8 36, .int .u8 92] 5 (7, 8)))
      clear Hh hcv c0
      generalize w'.alloc (.cells #[.int .u8 46, .int .u8 91, .int .u8 93, .int .u8 42, .int .u8 94, .int .u8 36, .int .u8 92] 5 (7, 8)) = W at *
      generalize w'.heap.size = G at *
      go_loop [11, 159] (fun _ k => ∃ n : Nat, n ≤ 7 ∧ k = .int .i64 n ∧ Hid (∀ j, j < n → ch s.data.toList (σ.pos + 1) ≠ spv j)) (fun _ k => 7 - (intOf k).toNat)
      case atStart => exact ⟨0, by omega, rfl, hd fun j hj => by omega⟩
      case round =>
        obtain ⟨n, hn7, rfl, Hno⟩ := hrel
        by_cases hn : n < 7
        · have hc := hcell n hn
          have hlt := spv_lt n hn
          by_cases he : s[σ.pos + 1].toNat = spv n
          · have hb : ((s[σ.pos + 1].toNat : Int) == (spv n : Int)) = true := by simp; omega
            have Hb := hd (byteItem_any (spv n) W hlt)
            have He := hd (Hcg.out.symm.trans he)
            clear hcell he
            go_wp2_with (go_at_call 30; refine Hb.out.mono ?_; rintro e w' ⟨rfl, arr, rfl, a1, a2⟩)
            refine bodyPost_ret (v := .tuple #[.pointer (some ⟨_, 0, none⟩), .int .i64 ((σ.pos : Int) + 2)]) (by simp [results, Tryd.results17, go_sem]; rfl) rfl ?_
            exact HF1.out _ arr n Hr.out Hk.out a1 a2 hn He.out
          · have hb : ((s[σ.pos + 1].toNat : Int) == (spv n : Int)) = false := by simp; omega
            have He := hd (fun h => he (Hcg.out.trans h))
            clear hcell he
            go_wp2
            go_round
            case rel => exact ⟨n + 1, by omega, by go_num, hd (sp_more Hno.out He.out)⟩
            case measure => simp [intOf]; omega
        · obtain rfl : n = 7 := by omega
          have Hst := hd (HF2.out Hno.out)
          go_wp2_with (first
            | (go_at_call 11; refine (wrong_any Hr.out 3 σ.pos _ rfl h0).mono ?_; rintro e w2 ⟨rfl, hr2, hk2⟩)
            | (go_at_call 30; refine (byteItem_any 0 _ (by omega)).mono ?_; rintro e w' ⟨rfl, arr, rfl, a1, a2⟩))
          refine bodyPost_ret (v := .tuple #[.pointer (some ⟨_, 0, none⟩), .int .i64 s.size]) (by simp [results, Tryd.results17, go_sem]; rfl) rfl ?_
          exact itm_err hr2 (Hk.out.trans hk2) a1 a2 (by omega) hp Hst.out
  · have Hst := hd (esc_end hx (by omega))
    have hp1 : ¬ (σ.pos : Int) + 1 < s.size := by omega
    clear h hS hx h40 h41 h123 hdg
    have hcv := run_cv
    go_enter Tryd.func17, Tryd.ntmps17
    go_wp2_with (go_at_call 15; refine (starts_b s _ _ σ.pos [92, 40] _ _ (by omega) rfl Hsw.out (by omega) (by decide) (by decide) (by omega)).mono ?_; rintro e w' ⟨rfl, rfl⟩)
    have hcell : ∀ n, n < 7 → (w'.alloc (.cells #[.int .u8 46, .int .u8 91, .int .u8 93, .int .u8 42, .int .u8 94, .int .u8 36, .int .u8 92] 5 (7, 8))).cell? ⟨w'.heap.size, n, none⟩ = some (.int .u8 (spv n)) := fun n hn => by
      rw [Joins.cell_alloc_mark_at _ _ _ _ _ n rfl]; exact spCells_at n hn
    have Hr := hd (Hh.out.alloc (.cells #[.int .u8 46, .int .u8 91, .int .u8 93, .int .u8 42, .int .u8 94, .int .u8 36, .int .u8 92] 5 (7, 8)))
    have Hk := hd ((Kp.refl w' R P vo).alloc (.cells #[.int .u8 46, .int .u8 91, .int .u8 93, .int .u8 42, .int .u8 94, .int .u8 36, .int .u8 92] 5 (7, 8)))
    clear Hh hcv c0
    generalize w'.alloc (.cells #[.int .u8 46, .int .u8 91, .int .u8 93, .int .u8 42, .int .u8 94, .int .u8 36, .int .u8 92] 5 (7, 8)) = W at *
    generalize w'.heap.size = G at *
    go_loop [11, 159] (fun _ k => ∃ n : Nat, n ≤ 7 ∧ k = .int .i64 n) (fun _ k => 7 - (intOf k).toNat)
    case atStart => exact ⟨0, by omega, rfl⟩
    case round =>
      obtain ⟨n, hn7, rfl⟩ := hrel
      by_cases hn : n < 7
      · have hc := hcell n hn
        clear hcell
        go_wp2
        go_round
        case rel => exact ⟨n + 1, by omega, by go_num⟩
        case measure => simp [intOf]; omega
      · obtain rfl : n = 7 := by omega
        go_wp2_with (first
          | (go_at_call 11; refine (wrong_any Hr.out 3 σ.pos _ rfl h0).mono ?_; rintro e w2 ⟨rfl, hr2, hk2⟩)
          | (go_at_call 30; refine (byteItem_any 0 _ (by omega)).mono ?_; rintro e w' ⟨rfl, arr, rfl, a1, a2⟩))
        refine bodyPost_ret (v := .tuple #[.pointer (some ⟨_, 0, none⟩), .int .i64 s.size]) (by simp [results, Tryd.results17, go_sem]; rfl) rfl ?_
        exact itm_err hr2 (Hk.out.trans hk2) a1 a2 (by omega) hp Hst.out
end
end Go.Proofs.YtjgafakfpcgpjaaDoor
