/- The document's reader: a bracket, walked. -/
import Derived.Test.YtjgafakfpcgpjaaDoorRBrk
namespace Go.Proofs.YtjgafakfpcgpjaaDoor
open Go.RowKit

/-- the reader's state when the members are begun -/
def BSt (w wr : World) (R P B : Nat) (s : ByteArray) (H : Fins) (vo : Value) (τ : RSt) (st first e0 q0 f p : Nat) (bc fst : Bool) : Prop :=
  Bk w wr R P B s H vo vo τ ∧ brkGo s.data.toList st first f p bc = (e0, q0) ∧ (bc = true → spB s.data.toList p = false) ∧ (fst = true ↔ p = first)
theorem cl_eq {s : ByteArray} {p first : Nat} (hp : p < s.size) {fst : Bool} (hf : fst = true ↔ p = first) (hfp : first ≤ p) : ((ch s.data.toList p == 93) && decide (first < p)) = (((s[p].toNat : Int) == 93) && !fst) := by
  rw [← ch_get s p hp]
  have : decide (first < p) = !fst := by
    cases fst
    · have : p ≠ first := fun e => by have := hf.2 e; cases this
      simp; omega
    · have := hf.1 rfl
      simp; omega
  rw [this]
  congr 1
  rw [Bool.eq_iff_iff]; simp; omega

set_option maxHeartbeats 3200000 in
theorem rbracket_no {w : World} {R P : Nat} {s : ByteArray} {H : Fins} {vo : Value} {τ : RSt} (h : Rg w R P s H vo τ) (h0 : τ.err = 0) (hc : ClsH H) (hs : s.size ≤ 60) (st : Nat) (hst : st < s.size) (e0 q0 : Nat) (hq : brk s.data.toList st = (e0, q0)) (hcar : sw s.data.toList (st + 1) [94] = false) :
    Calls Tryd.prog 29 #[.pointer (some ⟨R, 0, none⟩), .int .i64 st] w fun r w' => r = .returned (.tuple #[.pointer (some ⟨w.heap.size, 0, none⟩), .int .i64 (brkPl s.data.toList e0 q0)]) ∧ ItPost w w' R P s H vo (errT τ e0 q0) w.heap.size (0, 1) := by
  have c0 := h.c0
  have Hl := hd (len_data s)
  have Hbk := hd h.bk
  have Hcar := hd hcar
  have Hq2 : Hid (brkGo s.data.toList st (st + 1) 61 (st + 1) false = (e0, q0)) := by
    have e : brkFirst s.data.toList st = st + 1 := by unfold brkFirst; simp [hcar]
    have := hq
    unfold brk at this
    rw [e] at this
    exact hd this
  clear hcar h hq
  go_enter Tryd.func29, Tryd.ntmps29
  go_wp2_with (first
    | refine wp_b0 ⟨#[98, 121, 116, 101]⟩ rfl rfl ?_
    | refine wp_bx (.tmp 17) ⟨#[98, 121, 116, 101]⟩ 0 none 0 0 rfl rfl rfl ?_
    | (go_at_call 15; refine (starts_b s _ _ (st + 1) [94] _ _ (by omega) rfl Hcar.out (by omega) (by decide) (by decide) (by omega)).mono ?_; rintro e w' ⟨rfl, rfl⟩))
  generalize hW : w.alloc (.cells (itC ⟨#[98, 121, 116, 101]⟩ 0 none 0 0) 63) = W at *
  have Hw := hd hW
  clear hW c0
  obtain ⟨B, hB⟩ : ∃ B, w.heap.size = B := ⟨_, rfl⟩
  have HB := hd hB
  rw [hB] at Hbk
  simp only [hB]
  clear hB
  go_loopg [1, 10, 11] 61 (fun f i fb _ wr => ∃ (p : Nat) (bc fst : Bool), i = .int .i64 p ∧ fb = .bool fst ∧ st + 1 ≤ p ∧ p ≤ s.size + 2 ∧ s.size < p + f ∧ Hid (BSt w wr R P B s H vo τ st (st + 1) e0 q0 f p bc fst))
  case atStart => exact ⟨st + 1, false, true, by go_num, rfl, by omega, by omega, by omega, hd ⟨Hbk.out, Hq2.out, by simp, by simp⟩⟩
  case round =>
    obtain ⟨p, bc, fst, rfl, rfl, hfp, hps, hpf, HS⟩ := hrel
    have c0 := HS.out.1.rg.c0
    by_cases hlt : p < s.size
    · have hp' : (p : Int) < s.size := by omega
      have hp0 : (0 : Int) ≤ (p : Int) := by omega
      have hcl := cl_eq hlt HS.out.2.2.2 hfp
      cases hx : (((s[p].toNat : Int) == 93) && !fst)
      · rw [hx] at hcl
        rcases hmm : memT s.data.toList p with ⟨em, pm, bm⟩
        have hbd := memT_bd (by rw [Hl.out]; exact hlt) hmm
        rw [Hl.out] at hbd
        have Hstep := hd (brkGo_mem (start := st) (first := st + 1) (f := _) (by rw [Hl.out]; exact hlt) (by rw [Hl.out]; exact hpf) hcl HS.out.2.2.1 hmm)
        have Hmem := hd (fun i hi => member_any HS.out.1 h0 hc hs p i hi hlt em pm bm hmm)
        have Hfst : Hid (((s[p].toNat : Int) == 93) = false ∨ (((s[p].toNat : Int) == 93) = true ∧ fst = true)) := by
          cases h1 : ((s[p].toNat : Int) == 93)
          · exact .inl rfl
          · rw [h1] at hx; simp at hx; exact .inr ⟨rfl, hx⟩
        clear hx hcl hmm
        by_cases hem : em = 0
        · subst hem
          have hpm := hbd.2.2.2 rfl
          have Hb' := hd (fun w2 (hb2 : Bk w w2 R P B s H vo vo (errT τ 0 pm)) => (show Bk w w2 R P B s H vo vo τ from hb2))
          obtain ⟨g, rfl⟩ : ∃ g, gk = g + 1 := ⟨gk - 1, by omega⟩
          have Hnext : Hid (brkGo s.data.toList st (st + 1) g pm bm = (e0, q0) ∧ (bm = true → spB s.data.toList pm = false)) := by
            have := Hstep.out.1 rfl
            rw [show g + 1 - 1 = g by omega] at this
            exact ⟨this.1.symm.trans HS.out.2.1, this.2⟩
          clear Hstep
          rcases Hfst.out with h93 | ⟨h93, rfl⟩
          all_goals
            go_wp2_with (go_at_call 42; refine (Hmem.out _ rfl).mono ?_; rintro e w2 ⟨rfl, hb2⟩; replace hb2 := Hb'.out _ hb2; have c13 := hb2.rg.ce; rw [h0] at c13)
            go_roundg g
            case measure => omega
            case rel => exact ⟨pm, bm, false, rfl, rfl, by omega, by omega, by omega, hd ⟨hb2, Hnext.out.1, Hnext.out.2, by simp; omega⟩⟩
        · have He : Hid ((em, pm) = (e0, q0)) := hd ((Hstep.out.2 hem).symm.trans HS.out.2.1)
          have hen : ((em : Int) != 0) = true := by simp; omega
          have hen2 : ((em : Int) == 0) = false := by simp; omega
          have Hb' := hd (fun w2 (hb2 : Bk w w2 R P B s H vo vo (errT τ em pm)) => (show w2.cell? ⟨R, 13, none⟩ = some (.int .i64 em) by have := hb2.rg.ce; rw [errT_ne τ pm hem] at this; exact this))
          clear Hstep
          rcases Hfst.out with h93 | ⟨h93, rfl⟩
          all_goals
            go_wp2_with (go_at_call 42; refine (Hmem.out _ rfl).mono ?_; rintro e w2 ⟨rfl, hb2⟩; have c13 := Hb'.out _ hb2)
            go_ret2
            have he := He.out
            simp only [Prod.mk.injEq] at he
            obtain ⟨rfl, rfl⟩ := he
            rw [HB.out]
            exact ⟨by unfold brkPl; rw [if_neg hem, Hl.out]; rfl, hb2.done⟩
      · rw [hx] at hcl
        obtain ⟨g, rfl⟩ : ∃ g, gk = g + 1 := ⟨gk - 1, by omega⟩
        have Hz : Hid ((0, p + 1) = (e0, q0)) := hd (by
          simp only [Bool.and_eq_true, beq_iff_eq, decide_eq_true_eq] at hcl
          exact (brkGo_shut (start := st) (first := st + 1) (f := g) (bc := bc) (by rw [Hl.out]; exact hlt) hcl.1 hcl.2).symm.trans HS.out.2.1)
        simp only [Bool.and_eq_true, Bool.not_eq_true'] at hx
        obtain ⟨h93, rfl⟩ := hx
        clear hcl
        go_wp2
        go_ret2
        have he := Hz.out
        simp only [Prod.mk.injEq] at he
        obtain ⟨rfl, rfl⟩ := he
        rw [HB.out]
        exact ⟨by unfold brkPl; rw [if_pos rfl]; rfl, HS.out.1.done⟩
    · have Hz : Hid ((4, st) = (e0, q0)) := hd ((brkGo_out (start := st) (first := st + 1) (bc := bc) (by rw [Hl.out]; exact hlt)).symm.trans HS.out.2.1)
      have hlt' : (s.size : Int) ≤ (p : Int) := by omega
      go_wp2_with (go_at_call 11; refine (wrong_any HS.out.1.rg 4 st _ rfl h0).mono ?_; rintro e w2 ⟨rfl, hr2, hk2⟩)
      go_ret2
      have he := Hz.out
      simp only [Prod.mk.injEq] at he
      obtain ⟨rfl, rfl⟩ := he
      rw [HB.out]
      exact ⟨by unfold brkPl; rw [if_neg (by omega), Hl.out]; rfl, (HS.out.1.step hr2 hk2).done⟩

set_option maxRecDepth 100000 in
set_option maxHeartbeats 3200000 in
theorem rbracket_not {w : World} {R P : Nat} {s : ByteArray} {H : Fins} {vo : Value} {τ : RSt} (h : Rg w R P s H vo τ) (h0 : τ.err = 0) (hc : ClsH H) (hs : s.size ≤ 60) (st : Nat) (hst : st < s.size) (e0 q0 : Nat) (hq : brk s.data.toList st = (e0, q0)) (hcar : sw s.data.toList (st + 1) [94] = true) :
    Calls Tryd.prog 29 #[.pointer (some ⟨R, 0, none⟩), .int .i64 st] w fun r w' => r = .returned (.tuple #[.pointer (some ⟨w.heap.size, 0, none⟩), .int .i64 (brkPl s.data.toList e0 q0)]) ∧ ItPost w w' R P s H vo (errT τ e0 q0) w.heap.size (0, 1) := by
  have c0 := h.c0
  have Hl := hd (len_data s)
  have Hbk := hd h.bk
  have Hcar := hd hcar
  have Hq2 : Hid (brkGo s.data.toList st (st + 2) 61 (st + 2) false = (e0, q0)) := by
    have e : brkFirst s.data.toList st = st + 2 := by unfold brkFirst; simp [hcar]
    have := hq
    unfold brk at this
    rw [e] at this
    exact hd this
  clear hcar h hq
  go_enter Tryd.func29, Tryd.ntmps29
  go_wp2_with (first
    | refine wp_b0 ⟨#[98, 121, 116, 101]⟩ rfl rfl ?_
    | refine wp_bx (.tmp 17) ⟨#[98, 121, 116, 101]⟩ 0 none 0 0 rfl rfl rfl ?_
    | (go_at_call 15; refine (starts_b s _ _ (st + 1) [94] _ _ (by omega) rfl Hcar.out (by omega) (by decide) (by decide) (by omega)).mono ?_; rintro e w' ⟨rfl, rfl⟩))
  generalize hW : w.alloc (.cells (itC ⟨#[98, 121, 116, 101]⟩ 0 none 0 0) 63) = W at *
  have Hw := hd hW
  clear hW c0
  obtain ⟨B, hB⟩ : ∃ B, w.heap.size = B := ⟨_, rfl⟩
  have HB := hd hB
  rw [hB] at Hbk
  simp only [hB]
  clear hB
  go_loopg [1, 10, 11] 61 (fun f i fb _ wr => ∃ (p : Nat) (bc fst : Bool), i = .int .i64 p ∧ fb = .bool fst ∧ st + 2 ≤ p ∧ p ≤ s.size + 2 ∧ s.size < p + f ∧ Hid (BSt w wr R P B s H vo τ st (st + 2) e0 q0 f p bc fst))
  case atStart => exact ⟨st + 2, false, true, by go_num, rfl, by omega, by omega, by omega, hd ⟨Hbk.out, Hq2.out, by simp, by simp⟩⟩
  case round =>
    obtain ⟨p, bc, fst, rfl, rfl, hfp, hps, hpf, HS⟩ := hrel
    have c0 := HS.out.1.rg.c0
    by_cases hlt : p < s.size
    · have hp' : (p : Int) < s.size := by omega
      have hp0 : (0 : Int) ≤ (p : Int) := by omega
      have hcl := cl_eq hlt HS.out.2.2.2 hfp
      cases hx : (((s[p].toNat : Int) == 93) && !fst)
      · rw [hx] at hcl
        rcases hmm : memT s.data.toList p with ⟨em, pm, bm⟩
        have hbd := memT_bd (by rw [Hl.out]; exact hlt) hmm
        rw [Hl.out] at hbd
        have Hstep := hd (brkGo_mem (start := st) (first := st + 2) (f := _) (by rw [Hl.out]; exact hlt) (by rw [Hl.out]; exact hpf) hcl HS.out.2.2.1 hmm)
        have Hmem := hd (fun i hi => member_any HS.out.1 h0 hc hs p i hi hlt em pm bm hmm)
        have Hfst : Hid (((s[p].toNat : Int) == 93) = false ∨ (((s[p].toNat : Int) == 93) = true ∧ fst = true)) := by
          cases h1 : ((s[p].toNat : Int) == 93)
          · exact .inl rfl
          · rw [h1] at hx; simp at hx; exact .inr ⟨rfl, hx⟩
        clear hx hcl hmm
        by_cases hem : em = 0
        · subst hem
          have hpm := hbd.2.2.2 rfl
          have Hb' := hd (fun w2 (hb2 : Bk w w2 R P B s H vo vo (errT τ 0 pm)) => (show Bk w w2 R P B s H vo vo τ from hb2))
          obtain ⟨g, rfl⟩ : ∃ g, gk = g + 1 := ⟨gk - 1, by omega⟩
          have Hnext : Hid (brkGo s.data.toList st (st + 2) g pm bm = (e0, q0) ∧ (bm = true → spB s.data.toList pm = false)) := by
            have := Hstep.out.1 rfl
            rw [show g + 1 - 1 = g by omega] at this
            exact ⟨this.1.symm.trans HS.out.2.1, this.2⟩
          clear Hstep
          rcases Hfst.out with h93 | ⟨h93, rfl⟩
          all_goals
            go_wp2_with (go_at_call 42; refine (Hmem.out _ rfl).mono ?_; rintro e w2 ⟨rfl, hb2⟩; replace hb2 := Hb'.out _ hb2; have c13 := hb2.rg.ce; rw [h0] at c13)
            go_roundg g
            case measure => omega
            case rel => exact ⟨pm, bm, false, rfl, rfl, by omega, by omega, by omega, hd ⟨hb2, Hnext.out.1, Hnext.out.2, by simp; omega⟩⟩
        · have He : Hid ((em, pm) = (e0, q0)) := hd ((Hstep.out.2 hem).symm.trans HS.out.2.1)
          have hen : ((em : Int) != 0) = true := by simp; omega
          have hen2 : ((em : Int) == 0) = false := by simp; omega
          have Hb' := hd (fun w2 (hb2 : Bk w w2 R P B s H vo vo (errT τ em pm)) => (show w2.cell? ⟨R, 13, none⟩ = some (.int .i64 em) by have := hb2.rg.ce; rw [errT_ne τ pm hem] at this; exact this))
          clear Hstep
          rcases Hfst.out with h93 | ⟨h93, rfl⟩
          all_goals
            go_wp2_with (go_at_call 42; refine (Hmem.out _ rfl).mono ?_; rintro e w2 ⟨rfl, hb2⟩; have c13 := Hb'.out _ hb2)
            go_ret2
            have he := He.out
            simp only [Prod.mk.injEq] at he
            obtain ⟨rfl, rfl⟩ := he
            rw [HB.out]
            exact ⟨by unfold brkPl; rw [if_neg hem, Hl.out]; rfl, hb2.done⟩
      · rw [hx] at hcl
        obtain ⟨g, rfl⟩ : ∃ g, gk = g + 1 := ⟨gk - 1, by omega⟩
        have Hz : Hid ((0, p + 1) = (e0, q0)) := hd (by
          simp only [Bool.and_eq_true, beq_iff_eq, decide_eq_true_eq] at hcl
          exact (brkGo_shut (start := st) (first := st + 2) (f := g) (bc := bc) (by rw [Hl.out]; exact hlt) hcl.1 hcl.2).symm.trans HS.out.2.1)
        simp only [Bool.and_eq_true, Bool.not_eq_true'] at hx
        obtain ⟨h93, rfl⟩ := hx
        clear hcl
        go_wp2_with fail
        clear h93
        go_loopg [12, 60] 257 (fun f _ c wx => ∃ n : Nat, c = .int .i64 n ∧ n ≤ 256 ∧ 256 < n + f ∧ Hid (Bk w wx R P B s H vo vo τ))
        case atStart => exact ⟨0, rfl, by omega, by omega, hd HS.out.1⟩
        case round =>
          obtain ⟨n, rfl, hn1, hn2, Hb⟩ := hrel
          by_cases hn : n < 256
          · obtain ⟨b0, hb0⟩ := Hb.out.it.cell n hn
            have fz := Hb.out.it.free
            obtain ⟨g2, rfl⟩ : ∃ g2, gk = g2 + 1 := ⟨gk - 1, by omega⟩
            go_wp2
            go_region
            all_goals go_wp2
            all_goals go_roundg g2
            case measure => omega
            case rel => exact ⟨n + 1, by go_num, by omega, by omega, hd (Hb.out.set n hn _).drew⟩
          · go_wp2
            go_ret2
            have he := Hz.out
            simp only [Prod.mk.injEq] at he
            obtain ⟨rfl, rfl⟩ := he
            rw [HB.out]
            exact ⟨by unfold brkPl; rw [if_pos rfl]; rfl, Hb.out.done⟩
    · have Hz : Hid ((4, st) = (e0, q0)) := hd ((brkGo_out (start := st) (first := st + 2) (bc := bc) (by rw [Hl.out]; exact hlt)).symm.trans HS.out.2.1)
      have hlt' : (s.size : Int) ≤ (p : Int) := by omega
      go_wp2_with (go_at_call 11; refine (wrong_any HS.out.1.rg 4 st _ rfl h0).mono ?_; rintro e w2 ⟨rfl, hr2, hk2⟩)
      go_ret2
      have he := Hz.out
      simp only [Prod.mk.injEq] at he
      obtain ⟨rfl, rfl⟩ := he
      rw [HB.out]
      exact ⟨by unfold brkPl; rw [if_neg (by omega), Hl.out]; rfl, (HS.out.1.step hr2 hk2).done⟩

theorem rbracket_any {w : World} {R P : Nat} {s : ByteArray} {H : Fins} {vo : Value} {τ : RSt} (h : Rg w R P s H vo τ) (h0 : τ.err = 0) (hc : ClsH H) (hs : s.size ≤ 60) (st : Nat) (i : Int) (hi : i = st) (hst : st < s.size) (e0 q0 : Nat) (hq : brk s.data.toList st = (e0, q0)) :
    Calls Tryd.prog 29 #[.pointer (some ⟨R, 0, none⟩), .int .i64 i] w fun r w' => r = .returned (.tuple #[.pointer (some ⟨w.heap.size, 0, none⟩), .int .i64 (brkPl s.data.toList e0 q0)]) ∧ ItPost w w' R P s H vo (errT τ e0 q0) w.heap.size (0, 1) := by
  subst hi
  cases hcar : sw s.data.toList (st + 1) [94]
  · exact rbracket_no h h0 hc hs st hst e0 q0 hq hcar
  · exact rbracket_not h h0 hc hs st hst e0 q0 hq hcar
end Go.Proofs.YtjgafakfpcgpjaaDoor
