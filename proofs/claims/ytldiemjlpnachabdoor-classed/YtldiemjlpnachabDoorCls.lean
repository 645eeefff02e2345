import Derived.Test.YtldiemjlpnachabDoorFound
namespace Go.Proofs.YtldiemjlpnachabDoor
open Go.RowKit

theorem ch_lit (l : List UInt8) (i : Nat) (c : UInt8) (h : l[i]? = some c) : ch l i = c.toNat := by unfold ch; rw [h]; rfl
/-- one item that is a set: what its reading comes to -/
theorem one_res {l : List UInt8} {f : Nat → Bool} (hl : l.length ≤ 60) (hlf : lfT l = none) (hst : stepT l st0 = (0, addIt st0 (itOne f) l.length)) (hp : 0 < l.length) : (parseT l).1 = 0 ∧ refT0 l = [] ∧ itsT l = [itOne f] := by
  have hg : goT l 61 st0 = (0, addIt st0 (itOne f) l.length) := by
    rw [goT_more (f := 60) (by show 0 < l.length; exact hp) hst]
    exact goT_out (by show ¬ 0 + l.length < l.length; omega)
  have hpr : parseR l (goT l 61 st0) = (0, 0, 0) := by
    rw [hg]
    exact parseR_ok (by omega) hlf rfl (by simp [addIt, st0, rowSz, rowGo])
  refine ⟨by unfold parseT; rw [hpr], by unfold refT0 refR; rw [hpr, if_pos rfl, hg]; rfl, by unfold itsT; rw [hg]; rfl⟩
theorem lf_all {l : List UInt8} (h : ∀ c ∈ l, c ≠ 10) : lfT l = none := by
  unfold lfT
  rw [List.findIdx?_eq_none_iff]
  intro x hx
  simpa using h x hx
/-- a bracket of a range -/
theorem brac_pos (a b : UInt8) (hab : a ≤ b) (ha1 : a ≠ 93) (hb1 : b ≠ 93) (ha2 : a ≠ 91) (hb2 : b ≠ 91) (ha3 : a ≠ 94) (ha10 : a ≠ 10) (hb10 : b ≠ 10) :
    (parseT [91, a, 45, b, 93]).1 = 0 ∧ refT0 [91, a, 45, b, 93] = [] ∧ itsT [91, a, 45, b, 93] = [itOne (addR noS a.toNat b.toNat)] := by
  have n1 : a.toNat ≠ 93 := fun h => ha1 (UInt8.toNat_inj.1 h)
  have n2 : b.toNat ≠ 93 := fun h => hb1 (UInt8.toNat_inj.1 h)
  have n3 : a.toNat ≠ 91 := fun h => ha2 (UInt8.toNat_inj.1 h)
  have n4 : b.toNat ≠ 91 := fun h => hb2 (UInt8.toNat_inj.1 h)
  have n5 : a.toNat ≠ 94 := fun h => ha3 (UInt8.toNat_inj.1 h)
  have hle : a.toNat ≤ b.toNat := UInt8.le_iff_toNat_le.1 hab
  refine one_res (by simp) (lf_all (by simp; exact ⟨ha10, hb10⟩)) ?_ (by simp)
  have c0 : ch [91, a, 45, b, 93] 0 = 91 := rfl
  have c1 : ch [91, a, 45, b, 93] 1 = a.toNat := rfl
  have c2 : ch [91, a, 45, b, 93] 2 = 45 := rfl
  have c3 : ch [91, a, 45, b, 93] 3 = b.toNat := rfl
  have c4 : ch [91, a, 45, b, 93] 4 = 93 := rfl
  have hsw0 : sw [91, a, 45, b, 93] 1 [94] = false := by rw [sw1, c1]; simp [n5]
  have hfirst : brkFirst [91, a, 45, b, 93] 0 = 1 := by unfold brkFirst; rw [hsw0]; rfl
  have hnm1 : nmB [91, a, 45, b, 93] 1 = false := by unfold nmB; rw [c1]; simp [n3]
  have hnm3 : nmB [91, a, 45, b, 93] 3 = false := by unfold nmB; rw [c3]; simp [n4]
  have hsw2 : sw [91, a, 45, b, 93] 2 [45] = true := by rw [sw1, c2]; simp
  have hend : endB [91, a, 45, b, 93] 3 = false := by unfold endB; rw [c3]; simp [n2]
  have hrg : (decide (ch [91, a, 45, b, 93] 3 < a.toNat) || nmB [91, a, 45, b, 93] 3) = false := by rw [c3, hnm3]; simp; omega
  have hms : mstep [91, a, 45, b, 93] 1 false = (0, 4, false) := by
    rw [mstep_rg hnm1 c1 (by simp) hsw2 hend (by simp)]
    unfold rgE rgP
    rw [hrg]; rfl
  have hset : mset [91, a, 45, b, 93] 1 false noS = addR noS a.toNat b.toNat := by
    rw [mset_rg hnm1 c1 (by simp) hsw2 hend]
    unfold rgF
    rw [hrg, c3]; rfl
  have hbrk : brk [91, a, 45, b, 93] 0 = (0, 5) := by
    unfold brk
    rw [hfirst, brkGo_more (by simp) (by simp) hms, brkGo_shut (by simp) c4 (by omega)]
  have hbs : brkSet [91, a, 45, b, 93] 0 = addR noS a.toNat b.toNat := by
    unfold brkSet
    rw [hsw0, if_neg (by simp), hfirst, brkS_more (by simp) (by simp) hms, hset, brkS_shut (by simp) c4 (by omega)]
  unfold stepT
  rw [if_neg (by rw [show st0.pos = 0 from rfl, c0]; decide), if_pos (by rw [show st0.pos = 0 from rfl, c0])]
  unfold brkT
  rw [show st0.pos = 0 from rfl, hbrk, hbs]
  rfl
theorem brac_neg (a b : UInt8) (hab : a ≤ b) (ha1 : a ≠ 93) (hb1 : b ≠ 93) (ha2 : a ≠ 91) (hb2 : b ≠ 91) (ha10 : a ≠ 10) (hb10 : b ≠ 10) :
    (parseT [91, 94, a, 45, b, 93]).1 = 0 ∧ refT0 [91, 94, a, 45, b, 93] = [] ∧ itsT [91, 94, a, 45, b, 93] = [itOne (invS (addR noS a.toNat b.toNat))] := by
  have n1 : a.toNat ≠ 93 := fun h => ha1 (UInt8.toNat_inj.1 h)
  have n2 : b.toNat ≠ 93 := fun h => hb1 (UInt8.toNat_inj.1 h)
  have n3 : a.toNat ≠ 91 := fun h => ha2 (UInt8.toNat_inj.1 h)
  have n4 : b.toNat ≠ 91 := fun h => hb2 (UInt8.toNat_inj.1 h)
  have hle : a.toNat ≤ b.toNat := UInt8.le_iff_toNat_le.1 hab
  refine one_res (by simp) (lf_all (by simp; exact ⟨ha10, hb10⟩)) ?_ (by simp)
  have c0 : ch [91, 94, a, 45, b, 93] 0 = 91 := rfl
  have c2 : ch [91, 94, a, 45, b, 93] 2 = a.toNat := rfl
  have c3 : ch [91, 94, a, 45, b, 93] 3 = 45 := rfl
  have c4 : ch [91, 94, a, 45, b, 93] 4 = b.toNat := rfl
  have c5 : ch [91, 94, a, 45, b, 93] 5 = 93 := rfl
  have hsw0 : sw [91, 94, a, 45, b, 93] 1 [94] = true := by rw [sw1]; rfl
  have hfirst : brkFirst [91, 94, a, 45, b, 93] 0 = 2 := by unfold brkFirst; rw [hsw0]; rfl
  have hnm1 : nmB [91, 94, a, 45, b, 93] 2 = false := by unfold nmB; rw [c2]; simp [n3]
  have hnm3 : nmB [91, 94, a, 45, b, 93] 4 = false := by unfold nmB; rw [c4]; simp [n4]
  have hsw2 : sw [91, 94, a, 45, b, 93] 3 [45] = true := by rw [sw1, c3]; simp
  have hend : endB [91, 94, a, 45, b, 93] 4 = false := by unfold endB; rw [c4]; simp [n2]
  have hrg : (decide (ch [91, 94, a, 45, b, 93] 4 < a.toNat) || nmB [91, 94, a, 45, b, 93] 4) = false := by rw [c4, hnm3]; simp; omega
  have hms : mstep [91, 94, a, 45, b, 93] 2 false = (0, 5, false) := by
    rw [mstep_rg hnm1 c2 (by simp) hsw2 hend (by simp)]
    unfold rgE rgP
    rw [hrg]; rfl
  have hset : mset [91, 94, a, 45, b, 93] 2 false noS = addR noS a.toNat b.toNat := by
    rw [mset_rg hnm1 c2 (by simp) hsw2 hend]
    unfold rgF
    rw [hrg, c4]; rfl
  have hbrk : brk [91, 94, a, 45, b, 93] 0 = (0, 6) := by
    unfold brk
    rw [hfirst, brkGo_more (by simp) (by simp) hms, brkGo_shut (by simp) c5 (by omega)]
  have hbs : brkSet [91, 94, a, 45, b, 93] 0 = invS (addR noS a.toNat b.toNat) := by
    unfold brkSet
    rw [if_pos hsw0, hfirst, brkS_more (by simp) (by simp) hms, hset, brkS_shut (by simp) c5 (by omega)]
  unfold stepT
  rw [if_neg (by rw [show st0.pos = 0 from rfl, c0]; decide), if_pos (by rw [show st0.pos = 0 from rfl, c0])]
  unfold brkT
  rw [show st0.pos = 0 from rfl, hbrk, hbs]
  rfl
theorem dot_pat : (parseT [46]).1 = 0 ∧ refT0 [46] = [] ∧ itsT [46] = [itOne (addR noS 0 255)] :=
  one_res (by simp) (by decide) rfl (by simp)
/-- one item that is a set, in a line of one byte -/
theorem one_found {l : List UInt8} {f : Nat → Bool} {x : UInt8} (hi : itsT l = [itOne f]) (i j : Int) (hij : (f x.toNat = true ∧ i = 0 ∧ j = 1) ∨ (f x.toNat = false ∧ i < 0)) :
    ∀ fd a b, FindRes [x].length (fun u v => MtRow [x] ((itsT l).map (·.3)) u v) 0 fd a b → if i < 0 then fd = false ∧ a = 0 ∧ b = 0 else fd = true ∧ (a : Int) = i ∧ (b : Int) = j := by
  intro fd a b h
  have hb := h.1 ⟨Int.le_refl _, by simp⟩
  have hM : ∀ u v, MtRow [x] ((itsT l).map (·.3)) u v ↔ (u = 0 ∧ f x.toNat = true ∧ v = 1) := by
    intro u v
    rw [hi]
    simp only [List.map_cons, List.map_nil, MtRow, Mt]
    constructor
    · rintro ⟨k, ⟨h1, h2, rfl⟩, rfl⟩
      have hu : u = 0 := by simpa using h1
      subst hu
      exact ⟨rfl, h2, rfl⟩
    · rintro ⟨rfl, h2, rfl⟩
      exact ⟨1, ⟨by simp, h2, rfl⟩, rfl⟩
  have hb2 := hb.congr hM
  rcases hij with ⟨hf, rfl, rfl⟩ | ⟨hf, hi⟩
  · rw [if_neg (by omega)]
    have : Best [x].length (fun u v => u = 0 ∧ f x.toNat = true ∧ v = 1) (0 : Int).toNat true 0 1 := ⟨fun _ => ⟨by simp, by simp, ⟨rfl, hf, rfl⟩, fun i j _ _ h => by omega⟩, fun h => by cases h⟩
    obtain ⟨e1, e2, e3⟩ := hb2.uniq this
    exact ⟨e1, by omega, by omega⟩
  · rw [if_pos hi]
    have : Best [x].length (fun u v => u = 0 ∧ f x.toNat = true ∧ v = 1) (0 : Int).toNat false 0 0 := ⟨(fun h => by cases h), fun _ => ⟨rfl, rfl, fun i j _ _ h => by rw [hf] at h; cases h.2.1⟩⟩
    obtain ⟨e1, e2, e3⟩ := hb2.uniq this
    exact ⟨e1, by omega, by omega⟩
end Go.Proofs.YtldiemjlpnachabDoor
