import Derived.Test.YtjgafakfpcgpjaaDoorSets
import Derived.Deep.QuietTactic
import Derived.BigQuiet
namespace Go.Proofs.YtjgafakfpcgpjaaDoor
open Go.RowKit

set_option maxHeartbeats 1600000 in
theorem addClass_any (B o : Nat) (nm : ByteArray) (w : World) (hs : SetAt w B o) :
    Calls Tryd.prog 54 #[.pointer (some ⟨B, o, none⟩), .string nm] w fun e w' => e = .returned (.tuple #[]) ∧ SetAt w' B o ∧ Only w w' B o 8 := by
  go_enter Tryd.func54, Tryd.ntmps54
  have ho0 : Only w w B o 8 := Only.refl _ _ _ _
  go_wp2_with (first
    | (go_at_call 38; refine (addRange_any B o _ _ _ (by decide) (by decide) (by decide) (by decide) (by assumption)).mono ?_; rintro e w' ⟨rfl, hs', ho'⟩; have ho2 := Only.trans (by assumption) ho')
    | (go_at_call 40; refine (add_any B o _ _ (by decide) (by decide) (by assumption)).mono ?_; rintro e w' ⟨rfl, hs', ho'⟩; have ho2 := Only.trans (by assumption) ho'))
  all_goals go_end0
  all_goals exact ⟨rfl, by assumption, by assumption⟩

/-- the names of the classes lie where their variable lies -/
def NamesIn (w : World) : Prop := w.cell? ⟨1, 0, none⟩ = some (.string ⟨#[91, 58, 97, 108, 112, 104, 97, 58, 93]⟩) ∧ w.cell? ⟨1, 1, none⟩ = some (.string ⟨#[91, 58, 100, 105, 103, 105, 116, 58, 93]⟩) ∧ w.cell? ⟨1, 2, none⟩ = some (.string ⟨#[91, 58, 97, 108, 110, 117, 109, 58, 93]⟩) ∧ w.cell? ⟨1, 3, none⟩ = some (.string ⟨#[91, 58, 117, 112, 112, 101, 114, 58, 93]⟩) ∧ w.cell? ⟨1, 4, none⟩ = some (.string ⟨#[91, 58, 108, 111, 119, 101, 114, 58, 93]⟩) ∧ w.cell? ⟨1, 5, none⟩ = some (.string ⟨#[91, 58, 115, 112, 97, 99, 101, 58, 93]⟩)

/-- the members of a bracket that are being read -/
structure Mem (w : World) (M : Nat) (s : ByteArray) (p : Nat) (bc : Bool) : Prop where
  c0 : w.cell? ⟨M, 0, none⟩ = some (.string s)
  c1 : w.cell? ⟨M, 1, none⟩ = some (.int .i64 p)
  c10 : w.cell? ⟨M, 10, none⟩ = some (.bool bc)
  f1 : w.frozen? ⟨M, 1, none⟩ = false
  f10 : w.frozen? ⟨M, 10, none⟩ = false
  set : SetAt w M 2

set_option maxHeartbeats 1600000 in
theorem endsAt_any (M : Nat) (s : ByteArray) (p : Nat) (bc : Bool) (i : Int) (w : World) (hm : Mem w M s p bc) (h0 : 0 ≤ i) :
    Calls Tryd.prog 52 #[.pointer (some ⟨M, 0, none⟩), .int .i64 i] w fun e w' => e = .returned (.bool (endB s.data.toList i.toNat)) ∧ w' = w := by
  obtain ⟨n, rfl⟩ := Int.eq_ofNat_of_zero_le h0
  rw [Int.toNat_natCast]
  have c0 := hm.c0
  by_cases hlt : n < s.size
  · have Hv := hd (endB_in hlt)
    go_enter Tryd.func52, Tryd.ntmps52
    go_wp2
    go_ret
    exact ⟨ret_bool (by rw [Hv.out]; simp [Nat.not_le.2 hlt]), rfl⟩
  · have Hv := hd (endB_out hlt)
    go_enter Tryd.func52, Tryd.ntmps52
    go_wp2
    go_ret
    exact ⟨ret_bool (by rw [Hv.out]), rfl⟩

theorem Mem.drewN {w : World} {M : Nat} {s : ByteArray} {p : Nat} {bc : Bool} {n : Nat} (h : Mem w M s p bc) : Mem (w.drewN n) M s p bc := ⟨h.c0, h.c1, h.c10, h.f1, h.f10, h.set.drewN⟩
theorem Mem.only {w w' : World} {M : Nat} {s : ByteArray} {p : Nat} {bc : Bool} (h : Mem w M s p bc) (k : Only w w' M 2 8) (hs : SetAt w' M 2) : Mem w' M s p bc :=
  ⟨(k.cell 0 (by omega)).trans h.c0, (k.cell 1 (by omega)).trans h.c1, (k.cell 10 (by omega)).trans h.c10, (k.frozen 1).trans h.f1, (k.frozen 10).trans h.f10, hs⟩
theorem Mem.moved {w : World} {M : Nat} {s : ByteArray} {p q : Nat} {bc bd : Bool} (h : Mem w M s p bc) : Mem ((w.setCell ⟨M, 1, none⟩ (.int .i64 q)).setCell ⟨M, 10, none⟩ (.bool bd)) M s q bd := by
  have e1 : (w.setCell ⟨M, 1, none⟩ (.int .i64 q)).cell? ⟨M, 10, none⟩ = some (.bool bc) := by rw [World.cell?_setCell_other _ _ _ _ (by simp)]; exact h.c10
  refine ⟨?_, ?_, World.cell?_setCell_same _ _ _ e1, by simpa using h.f1, by simpa using h.f10, ?_⟩
  · rw [World.cell?_setCell_other _ _ _ _ (by simp), World.cell?_setCell_other _ _ _ _ (by simp)]; exact h.c0
  · rw [World.cell?_setCell_other _ _ _ _ (by simp)]; exact World.cell?_setCell_same _ _ _ h.c1
  · intro i hi
    obtain ⟨⟨u, hu⟩, hf⟩ := h.set i hi
    refine ⟨⟨u, ?_⟩, by simpa using hf⟩
    rw [World.cell?_setCell_other _ _ _ _ (by rintro e; injection e; omega), World.cell?_setCell_other _ _ _ _ (by rintro e; injection e; omega)]; exact hu
theorem Mem.moved1 {w : World} {M : Nat} {s : ByteArray} {p q : Nat} {bc : Bool} (h : Mem w M s p bc) : Mem (w.setCell ⟨M, 1, none⟩ (.int .i64 q)) M s q bc := by
  refine ⟨?_, World.cell?_setCell_same _ _ _ h.c1, ?_, by simpa using h.f1, by simpa using h.f10, ?_⟩
  · rw [World.cell?_setCell_other _ _ _ _ (by simp)]; exact h.c0
  · rw [World.cell?_setCell_other _ _ _ _ (by simp)]; exact h.c10
  · intro i hi
    obtain ⟨⟨u, hu⟩, hf⟩ := h.set i hi
    refine ⟨⟨u, ?_⟩, by simpa using hf⟩
    rw [World.cell?_setCell_other _ _ _ _ (by rintro e; injection e; omega)]; exact hu
theorem Mem.marked {w : World} {M : Nat} {s : ByteArray} {p : Nat} {bc bd : Bool} (h : Mem w M s p bc) : Mem (w.setCell ⟨M, 10, none⟩ (.bool bd)) M s p bd := by
  refine ⟨?_, ?_, World.cell?_setCell_same _ _ _ h.c10, by simpa using h.f1, by simpa using h.f10, ?_⟩
  · rw [World.cell?_setCell_other _ _ _ _ (by simp)]; exact h.c0
  · rw [World.cell?_setCell_other _ _ _ _ (by simp)]; exact h.c1
  · intro i hi
    obtain ⟨⟨u, hu⟩, hf⟩ := h.set i hi
    refine ⟨⟨u, ?_⟩, by simpa using hf⟩
    rw [World.cell?_setCell_other _ _ _ _ (by rintro e; injection e; omega)]; exact hu

/-- what a class comes to -/
def clsE : Option Nat → Int
  | some _ => 0
  | none => 5
def clsP (p : Nat) : Option Nat → Nat
  | some k => p + k
  | none => p
def clsB (bc : Bool) : Option Nat → Bool
  | some _ => true
  | none => bc

theorem ix0 (w : World) : (Instr.index 107 (.agg #[.string ⟨#[91, 58, 97, 108, 112, 104, 97, 58, 93]⟩, .string ⟨#[91, 58, 100, 105, 103, 105, 116, 58, 93]⟩, .string ⟨#[91, 58, 97, 108, 110, 117, 109, 58, 93]⟩, .string ⟨#[91, 58, 117, 112, 112, 101, 114, 58, 93]⟩, .string ⟨#[91, 58, 108, 111, 119, 101, 114, 58, 93]⟩, .string ⟨#[91, 58, 115, 112, 97, 99, 101, 58, 93]⟩]) (.int .i64 0)).run Tryd.prog w = .ok (.string ⟨#[91, 58, 97, 108, 112, 104, 97, 58, 93]⟩) w := by kernel_rfl
theorem ix1 (w : World) : (Instr.index 107 (.agg #[.string ⟨#[91, 58, 97, 108, 112, 104, 97, 58, 93]⟩, .string ⟨#[91, 58, 100, 105, 103, 105, 116, 58, 93]⟩, .string ⟨#[91, 58, 97, 108, 110, 117, 109, 58, 93]⟩, .string ⟨#[91, 58, 117, 112, 112, 101, 114, 58, 93]⟩, .string ⟨#[91, 58, 108, 111, 119, 101, 114, 58, 93]⟩, .string ⟨#[91, 58, 115, 112, 97, 99, 101, 58, 93]⟩]) (.int .i64 1)).run Tryd.prog w = .ok (.string ⟨#[91, 58, 100, 105, 103, 105, 116, 58, 93]⟩) w := by kernel_rfl
theorem ix2 (w : World) : (Instr.index 107 (.agg #[.string ⟨#[91, 58, 97, 108, 112, 104, 97, 58, 93]⟩, .string ⟨#[91, 58, 100, 105, 103, 105, 116, 58, 93]⟩, .string ⟨#[91, 58, 97, 108, 110, 117, 109, 58, 93]⟩, .string ⟨#[91, 58, 117, 112, 112, 101, 114, 58, 93]⟩, .string ⟨#[91, 58, 108, 111, 119, 101, 114, 58, 93]⟩, .string ⟨#[91, 58, 115, 112, 97, 99, 101, 58, 93]⟩]) (.int .i64 2)).run Tryd.prog w = .ok (.string ⟨#[91, 58, 97, 108, 110, 117, 109, 58, 93]⟩) w := by kernel_rfl
theorem ix3 (w : World) : (Instr.index 107 (.agg #[.string ⟨#[91, 58, 97, 108, 112, 104, 97, 58, 93]⟩, .string ⟨#[91, 58, 100, 105, 103, 105, 116, 58, 93]⟩, .string ⟨#[91, 58, 97, 108, 110, 117, 109, 58, 93]⟩, .string ⟨#[91, 58, 117, 112, 112, 101, 114, 58, 93]⟩, .string ⟨#[91, 58, 108, 111, 119, 101, 114, 58, 93]⟩, .string ⟨#[91, 58, 115, 112, 97, 99, 101, 58, 93]⟩]) (.int .i64 3)).run Tryd.prog w = .ok (.string ⟨#[91, 58, 117, 112, 112, 101, 114, 58, 93]⟩) w := by kernel_rfl
theorem ix4 (w : World) : (Instr.index 107 (.agg #[.string ⟨#[91, 58, 97, 108, 112, 104, 97, 58, 93]⟩, .string ⟨#[91, 58, 100, 105, 103, 105, 116, 58, 93]⟩, .string ⟨#[91, 58, 97, 108, 110, 117, 109, 58, 93]⟩, .string ⟨#[91, 58, 117, 112, 112, 101, 114, 58, 93]⟩, .string ⟨#[91, 58, 108, 111, 119, 101, 114, 58, 93]⟩, .string ⟨#[91, 58, 115, 112, 97, 99, 101, 58, 93]⟩]) (.int .i64 4)).run Tryd.prog w = .ok (.string ⟨#[91, 58, 108, 111, 119, 101, 114, 58, 93]⟩) w := by kernel_rfl
theorem ix5 (w : World) : (Instr.index 107 (.agg #[.string ⟨#[91, 58, 97, 108, 112, 104, 97, 58, 93]⟩, .string ⟨#[91, 58, 100, 105, 103, 105, 116, 58, 93]⟩, .string ⟨#[91, 58, 97, 108, 110, 117, 109, 58, 93]⟩, .string ⟨#[91, 58, 117, 112, 112, 101, 114, 58, 93]⟩, .string ⟨#[91, 58, 108, 111, 119, 101, 114, 58, 93]⟩, .string ⟨#[91, 58, 115, 112, 97, 99, 101, 58, 93]⟩]) (.int .i64 5)).run Tryd.prog w = .ok (.string ⟨#[91, 58, 115, 112, 97, 99, 101, 58, 93]⟩) w := by kernel_rfl
set_option maxRecDepth 100000 in
set_option maxHeartbeats 3200000 in
theorem class_any (M : Nat) (s : ByteArray) (p : Nat) (bc : Bool) (w : World) (hm : Mem w M s p bc) (hn : NamesIn w) (hs : s.size ≤ 60) (hp : p ≤ 60) :
    Calls Tryd.prog 51 #[.pointer (some ⟨M, 0, none⟩)] w fun e w' => e = .returned (.int .i64 (clsE (clsGo s.data.toList p clsNames))) ∧ Mem w' M s (clsP p (clsGo s.data.toList p clsNames)) (clsB bc (clsGo s.data.toList p clsNames)) ∧ Only w w' M 0 11 := by
  obtain ⟨g0, g1, g2, g3, g4, g5⟩ := hn
  have i0 := ix0
  have i1 := ix1
  have i2 := ix2
  have i3 := ix3
  have i4 := ix4
  have i5 := ix5
  go_enter Tryd.func51, Tryd.ntmps51
  go_wp2
  go_loopw [4, 6] (fun _ i wr => ∃ (k n : Nat), i = .int .i64 k ∧ k ≤ 6 ∧ wr = w.drewN n ∧ Hid (clsGo s.data.toList p clsNames = clsGo s.data.toList p (clsNames.drop k))) (fun _ i _ => (6 - intOf i).toNat)
  case atStart => exact ⟨0, 0, rfl, by omega, rfl, hd rfl⟩
  case round =>
    obtain ⟨k, n, rfl, hk, hwr, HG⟩ := hrel
    have hmr : Mem wr M s p bc := by rw [hwr]; exact hm.drewN
    have Hor : Hid (Only w wr M 0 11) := by rw [hwr]; exact (Only.refl _ _ _ _).drewN
    have Hw := hd hwr
    clear hwr
    have c0 := hmr.c0
    have c1 := hmr.c1
    have p0 : (0 : Int) ≤ (p : Int) := by omega
    have p1 : (p : Int) ≤ 60 := by omega
    rcases (show k = 6 ∨ k = 0 ∨ k = 1 ∨ k = 2 ∨ k = 3 ∨ k = 4 ∨ k = 5 by omega) with rfl | rfl | rfl | rfl | rfl | rfl | rfl
    · go_wp2
      go_ret
      have hz : clsGo s.data.toList p clsNames = none := HG.out
      rw [hz]
      exact ⟨rfl, hmr, Hor.out⟩
    · by_cases hsw : sw s.data.toList p [91, 58, 97, 108, 112, 104, 97, 58, 93] = true
      · have Hz : Hid (clsGo s.data.toList p clsNames = some 9) := HG.out.trans (by show (if sw s.data.toList p [91, 58, 97, 108, 112, 104, 97, 58, 93] = true then _ else _) = _; rw [if_pos hsw]; rfl)
        go_wp2
        go_quiet ((go_at_call 39; exact Calls.quiet_of_same (hasAt_at s _ _ p [91, 58, 97, 108, 112, 104, 97, 58, 93] _ rfl rfl (by omega) (by decide) (by decide) (by omega))))
        simp only [hsw]
        go_wp2_with fail
        refine (addClass_any M 2 _ _ hmr.set.drewN).mono ?_
        rintro e w2 ⟨rfl, hs2, ho2⟩
        have hm2 : Mem w2 M s p bc := hmr.drewN.only ho2 hs2
        have Ho2 : Hid (Only w w2 M 0 11) := hd (Hor.out.drewN.trans (ho2.mono (by omega) (by omega)))
        have d1 := hm2.c1
        have d10 := hm2.c10
        have e1 := hm2.f1
        have e10 := hm2.f10
        clear ho2
        go_wp2
        go_ret
        rw [Hz.out]
        exact ⟨rfl, hm2.moved, (Ho2.out.setCell _ (by omega) _).setCell _ (by omega) _⟩
      · have hswf : sw s.data.toList p [91, 58, 97, 108, 112, 104, 97, 58, 93] = false := by simpa using hsw
        clear hsw
        have Hz : Hid (clsGo s.data.toList p clsNames = clsGo s.data.toList p (clsNames.drop 1)) := HG.out.trans (by show (if sw s.data.toList p [91, 58, 97, 108, 112, 104, 97, 58, 93] = true then _ else _) = _; rw [hswf]; rfl)
        go_wp2
        go_quiet ((go_at_call 39; exact Calls.quiet_of_same (hasAt_at s _ _ p [91, 58, 97, 108, 112, 104, 97, 58, 93] _ rfl rfl (by omega) (by decide) (by decide) (by omega))))
        simp only [hswf]
        go_wp2
        go_roundw
        case rel => exact ⟨1, n + nq, by go_num, by omega, by rw [Hw.out, World.drewN_drewN], Hz⟩
        case measure => simp [intOf]
    · by_cases hsw : sw s.data.toList p [91, 58, 100, 105, 103, 105, 116, 58, 93] = true
      · have Hz : Hid (clsGo s.data.toList p clsNames = some 9) := HG.out.trans (by show (if sw s.data.toList p [91, 58, 100, 105, 103, 105, 116, 58, 93] = true then _ else _) = _; rw [if_pos hsw]; rfl)
        go_wp2
        go_quiet ((go_at_call 39; exact Calls.quiet_of_same (hasAt_at s _ _ p [91, 58, 100, 105, 103, 105, 116, 58, 93] _ rfl rfl (by omega) (by decide) (by decide) (by omega))))
        simp only [hsw]
        go_wp2_with fail
        refine (addClass_any M 2 _ _ hmr.set.drewN).mono ?_
        rintro e w2 ⟨rfl, hs2, ho2⟩
        have hm2 : Mem w2 M s p bc := hmr.drewN.only ho2 hs2
        have Ho2 : Hid (Only w w2 M 0 11) := hd (Hor.out.drewN.trans (ho2.mono (by omega) (by omega)))
        have d1 := hm2.c1
        have d10 := hm2.c10
        have e1 := hm2.f1
        have e10 := hm2.f10
        clear ho2
        go_wp2
        go_ret
        rw [Hz.out]
        exact ⟨rfl, hm2.moved, (Ho2.out.setCell _ (by omega) _).setCell _ (by omega) _⟩
      · have hswf : sw s.data.toList p [91, 58, 100, 105, 103, 105, 116, 58, 93] = false := by simpa using hsw
        clear hsw
        have Hz : Hid (clsGo s.data.toList p clsNames = clsGo s.data.toList p (clsNames.drop 2)) := HG.out.trans (by show (if sw s.data.toList p [91, 58, 100, 105, 103, 105, 116, 58, 93] = true then _ else _) = _; rw [hswf]; rfl)
        go_wp2
        go_quiet ((go_at_call 39; exact Calls.quiet_of_same (hasAt_at s _ _ p [91, 58, 100, 105, 103, 105, 116, 58, 93] _ rfl rfl (by omega) (by decide) (by decide) (by omega))))
        simp only [hswf]
        go_wp2
        go_roundw
        case rel => exact ⟨2, n + nq, by go_num, by omega, by rw [Hw.out, World.drewN_drewN], Hz⟩
        case measure => simp [intOf]
    · by_cases hsw : sw s.data.toList p [91, 58, 97, 108, 110, 117, 109, 58, 93] = true
      · have Hz : Hid (clsGo s.data.toList p clsNames = some 9) := HG.out.trans (by show (if sw s.data.toList p [91, 58, 97, 108, 110, 117, 109, 58, 93] = true then _ else _) = _; rw [if_pos hsw]; rfl)
        go_wp2
        go_quiet ((go_at_call 39; exact Calls.quiet_of_same (hasAt_at s _ _ p [91, 58, 97, 108, 110, 117, 109, 58, 93] _ rfl rfl (by omega) (by decide) (by decide) (by omega))))
        simp only [hsw]
        go_wp2_with fail
        refine (addClass_any M 2 _ _ hmr.set.drewN).mono ?_
        rintro e w2 ⟨rfl, hs2, ho2⟩
        have hm2 : Mem w2 M s p bc := hmr.drewN.only ho2 hs2
        have Ho2 : Hid (Only w w2 M 0 11) := hd (Hor.out.drewN.trans (ho2.mono (by omega) (by omega)))
        have d1 := hm2.c1
        have d10 := hm2.c10
        have e1 := hm2.f1
        have e10 := hm2.f10
        clear ho2
        go_wp2
        go_ret
        rw [Hz.out]
        exact ⟨rfl, hm2.moved, (Ho2.out.setCell _ (by omega) _).setCell _ (by omega) _⟩
      · have hswf : sw s.data.toList p [91, 58, 97, 108, 110, 117, 109, 58, 93] = false := by simpa using hsw
        clear hsw
        have Hz : Hid (clsGo s.data.toList p clsNames = clsGo s.data.toList p (clsNames.drop 3)) := HG.out.trans (by show (if sw s.data.toList p [91, 58, 97, 108, 110, 117, 109, 58, 93] = true then _ else _) = _; rw [hswf]; rfl)
        go_wp2
        go_quiet ((go_at_call 39; exact Calls.quiet_of_same (hasAt_at s _ _ p [91, 58, 97, 108, 110, 117, 109, 58, 93] _ rfl rfl (by omega) (by decide) (by decide) (by omega))))
        simp only [hswf]
        go_wp2
        go_roundw
        case rel => exact ⟨3, n + nq, by go_num, by omega, by rw [Hw.out, World.drewN_drewN], Hz⟩
        case measure => simp [intOf]
    · by_cases hsw : sw s.data.toList p [91, 58, 117, 112, 112, 101, 114, 58, 93] = true
      · have Hz : Hid (clsGo s.data.toList p clsNames = some 9) := HG.out.trans (by show (if sw s.data.toList p [91, 58, 117, 112, 112, 101, 114, 58, 93] = true then _ else _) = _; rw [if_pos hsw]; rfl)
        go_wp2
        go_quiet ((go_at_call 39; exact Calls.quiet_of_same (hasAt_at s _ _ p [91, 58, 117, 112, 112, 101, 114, 58, 93] _ rfl rfl (by omega) (by decide) (by decide) (by omega))))
        simp only [hsw]
        go_wp2_with fail
        refine (addClass_any M 2 _ _ hmr.set.drewN).mono ?_
        rintro e w2 ⟨rfl, hs2, ho2⟩
        have hm2 : Mem w2 M s p bc := hmr.drewN.only ho2 hs2
        have Ho2 : Hid (Only w w2 M 0 11) := hd (Hor.out.drewN.trans (ho2.mono (by omega) (by omega)))
        have d1 := hm2.c1
        have d10 := hm2.c10
        have e1 := hm2.f1
        have e10 := hm2.f10
        clear ho2
        go_wp2
        go_ret
        rw [Hz.out]
        exact ⟨rfl, hm2.moved, (Ho2.out.setCell _ (by omega) _).setCell _ (by omega) _⟩
      · have hswf : sw s.data.toList p [91, 58, 117, 112, 112, 101, 114, 58, 93] = false := by simpa using hsw
        clear hsw
        have Hz : Hid (clsGo s.data.toList p clsNames = clsGo s.data.toList p (clsNames.drop 4)) := HG.out.trans (by show (if sw s.data.toList p [91, 58, 117, 112, 112, 101, 114, 58, 93] = true then _ else _) = _; rw [hswf]; rfl)
        go_wp2
        go_quiet ((go_at_call 39; exact Calls.quiet_of_same (hasAt_at s _ _ p [91, 58, 117, 112, 112, 101, 114, 58, 93] _ rfl rfl (by omega) (by decide) (by decide) (by omega))))
        simp only [hswf]
        go_wp2
        go_roundw
        case rel => exact ⟨4, n + nq, by go_num, by omega, by rw [Hw.out, World.drewN_drewN], Hz⟩
        case measure => simp [intOf]
    · by_cases hsw : sw s.data.toList p [91, 58, 108, 111, 119, 101, 114, 58, 93] = true
      · have Hz : Hid (clsGo s.data.toList p clsNames = some 9) := HG.out.trans (by show (if sw s.data.toList p [91, 58, 108, 111, 119, 101, 114, 58, 93] = true then _ else _) = _; rw [if_pos hsw]; rfl)
        go_wp2
        go_quiet ((go_at_call 39; exact Calls.quiet_of_same (hasAt_at s _ _ p [91, 58, 108, 111, 119, 101, 114, 58, 93] _ rfl rfl (by omega) (by decide) (by decide) (by omega))))
        simp only [hsw]
        go_wp2_with fail
        refine (addClass_any M 2 _ _ hmr.set.drewN).mono ?_
        rintro e w2 ⟨rfl, hs2, ho2⟩
        have hm2 : Mem w2 M s p bc := hmr.drewN.only ho2 hs2
        have Ho2 : Hid (Only w w2 M 0 11) := hd (Hor.out.drewN.trans (ho2.mono (by omega) (by omega)))
        have d1 := hm2.c1
        have d10 := hm2.c10
        have e1 := hm2.f1
        have e10 := hm2.f10
        clear ho2
        go_wp2
        go_ret
        rw [Hz.out]
        exact ⟨rfl, hm2.moved, (Ho2.out.setCell _ (by omega) _).setCell _ (by omega) _⟩
      · have hswf : sw s.data.toList p [91, 58, 108, 111, 119, 101, 114, 58, 93] = false := by simpa using hsw
        clear hsw
        have Hz : Hid (clsGo s.data.toList p clsNames = clsGo s.data.toList p (clsNames.drop 5)) := HG.out.trans (by show (if sw s.data.toList p [91, 58, 108, 111, 119, 101, 114, 58, 93] = true then _ else _) = _; rw [hswf]; rfl)
        go_wp2
        go_quiet ((go_at_call 39; exact Calls.quiet_of_same (hasAt_at s _ _ p [91, 58, 108, 111, 119, 101, 114, 58, 93] _ rfl rfl (by omega) (by decide) (by decide) (by omega))))
        simp only [hswf]
        go_wp2
        go_roundw
        case rel => exact ⟨5, n + nq, by go_num, by omega, by rw [Hw.out, World.drewN_drewN], Hz⟩
        case measure => simp [intOf]
    · by_cases hsw : sw s.data.toList p [91, 58, 115, 112, 97, 99, 101, 58, 93] = true
      · have Hz : Hid (clsGo s.data.toList p clsNames = some 9) := HG.out.trans (by show (if sw s.data.toList p [91, 58, 115, 112, 97, 99, 101, 58, 93] = true then _ else _) = _; rw [if_pos hsw]; rfl)
        go_wp2
        go_quiet ((go_at_call 39; exact Calls.quiet_of_same (hasAt_at s _ _ p [91, 58, 115, 112, 97, 99, 101, 58, 93] _ rfl rfl (by omega) (by decide) (by decide) (by omega))))
        simp only [hsw]
        go_wp2_with fail
        refine (addClass_any M 2 _ _ hmr.set.drewN).mono ?_
        rintro e w2 ⟨rfl, hs2, ho2⟩
        have hm2 : Mem w2 M s p bc := hmr.drewN.only ho2 hs2
        have Ho2 : Hid (Only w w2 M 0 11) := hd (Hor.out.drewN.trans (ho2.mono (by omega) (by omega)))
        have d1 := hm2.c1
        have d10 := hm2.c10
        have e1 := hm2.f1
        have e10 := hm2.f10
        clear ho2
        go_wp2
        go_ret
        rw [Hz.out]
        exact ⟨rfl, hm2.moved, (Ho2.out.setCell _ (by omega) _).setCell _ (by omega) _⟩
      · have hswf : sw s.data.toList p [91, 58, 115, 112, 97, 99, 101, 58, 93] = false := by simpa using hsw
        clear hsw
        have Hz : Hid (clsGo s.data.toList p clsNames = clsGo s.data.toList p (clsNames.drop 6)) := HG.out.trans (by show (if sw s.data.toList p [91, 58, 115, 112, 97, 99, 101, 58, 93] = true then _ else _) = _; rw [hswf]; rfl)
        go_wp2
        go_quiet ((go_at_call 39; exact Calls.quiet_of_same (hasAt_at s _ _ p [91, 58, 115, 112, 97, 99, 101, 58, 93] _ rfl rfl (by omega) (by decide) (by decide) (by omega))))
        simp only [hswf]
        go_wp2
        go_roundw
        case rel => exact ⟨6, n + nq, by go_num, by omega, by rw [Hw.out, World.drewN_drewN], Hz⟩
        case measure => simp [intOf]

theorem endsAt_at (M : Nat) (s : ByteArray) (p : Nat) (bc : Bool) (i : Int) (q : Nat) (w : World) (hiq : i = q) (hm : Mem w M s p bc) :
    Calls Tryd.prog 52 #[.pointer (some ⟨M, 0, none⟩), .int .i64 i] w fun e w' => e = .returned (.bool (endB s.data.toList q)) ∧ w' = w := by
  subst hiq
  have := endsAt_any M s p bc q w hm (by omega)
  rwa [Int.toNat_natCast] at this
end Go.Proofs.YtjgafakfpcgpjaaDoor
