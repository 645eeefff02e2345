import Derived.Test.YtldiemjlpnachabDoorEv
/- Find as a function; All. -/
namespace Go.Proofs.YtldiemjlpnachabDoor
open Go.RowKit

def resE : Option (Nat × Nat) → Value
  | some (a, b) => .tuple #[.int .i64 a, .int .i64 b, .bool true]
  | none => .tuple #[.int .i64 0, .int .i64 0, .bool false]
/-- what Find answers, from any place on -/
def findI (p s : List UInt8) (fr : Int) : Option (Nat × Nat) := if 0 ≤ fr ∧ fr ≤ s.length then findE p s fr.toNat else none
theorem findI_nat (p s : List UInt8) {fr : Nat} (h : fr ≤ s.length) : findI p s fr = findE p s fr := by
  unfold findI
  rw [if_pos ⟨by omega, by omega⟩, Int.toNat_natCast]
theorem findE_in {p s : List UInt8} (hok : (parseT p).1 = 0) {fr a b : Nat} (hf : fr ≤ s.length) (h : findE p s fr = some (a, b)) : fr ≤ a ∧ a ≤ b ∧ b ≤ s.length := by
  have hb := findE_ok (s := s) hok hf
  rw [h] at hb
  simp only at hb
  obtain ⟨h1, h2, h3, _⟩ := hb.1 rfl
  obtain ⟨_, μ, hm⟩ := (fm_mg hok s a b).1 h3
  exact ⟨h1, mg_row_fwd s _ _ _ _ hm, mg_row_le s _ _ _ _ (by exact h2) hm⟩
theorem find_res {p s : List UInt8} (hok : (parseT p).1 = 0) {fr : Int} {fd : Bool} {a b : Nat} (h : FindRes s.length (Fm p s) fr fd a b) : (.tuple #[.int .i64 a, .int .i64 b, .bool fd] : Value) = resE (findI p s fr) := by
  unfold findI
  by_cases hf : 0 ≤ fr ∧ fr ≤ s.length
  · rw [if_pos hf]
    have h1 := h.1 hf
    have h2 := findE_ok (s := s) hok (fr := fr.toNat) (by omega)
    cases he : findE p s fr.toNat with
    | none =>
      rw [he] at h2
      obtain ⟨rfl, rfl, rfl⟩ := h1.uniq h2
      rfl
    | some x =>
      obtain ⟨x, y⟩ := x
      rw [he] at h2
      obtain ⟨rfl, rfl, rfl⟩ := h1.uniq h2
      rfl
  · rw [if_neg hf]
    obtain ⟨rfl, rfl, rfl⟩ := h.2 hf
    rfl
theorem ProgIn.below {w0 w w' : World} {g : Nat} {l : List UInt8} (h : ProgIn w0 w g l) (k : Below w.heap.size w w') : ProgIn w0 w' g l := by
  have lg := World.block_lt_of_cell? w _ h.c0
  simp only at lg
  have c : ∀ i, w'.cell? ⟨g, i, none⟩ = w.cell? ⟨g, i, none⟩ := fun i => k.cell (by exact lg)
  obtain ⟨v, h1, h2, h3, ⟨css, ho, hs⟩, h4⟩ := h.code
  exact ⟨(c 0).trans h.c0, (c 3).trans h.c3, ⟨v, (c 1).trans h1, (c 2).trans h2, (c 4).trans h3, ⟨css, owns_same ho (fun b hb => k.block b (ho.lt b hb).2), hs⟩, h4⟩, h.le⟩
/-- FIND, as a function. -/
theorem pfind_fun (w0 w : World) (g : Nat) (l : List UInt8) (s : ByteArray) (fr : Int) (hok : (parseT l).1 = 0) (hP : ProgIn w0 w g l) (hs : s.size ≤ 1000000000) :
    Calls Tryd.prog 17 #[.pointer (some ⟨g, 0, none⟩), .string s, .int .i64 fr] w fun e w' => e = .returned (resE (findI l s.data.toList fr)) ∧ Below w.heap.size w w' := by
  refine (pfind_all w0 w g l s fr hok hP hs).mono ?_
  rintro e w' ⟨hb, fd, a, b, rfl, h1, h2⟩
  exact ⟨by rw [find_res hok ⟨h1, h2⟩], hb⟩
/-- the matches that have a byte -/
def allE (p s : List UInt8) : Nat → Nat → List (Nat × Nat)
  | 0, _ => []
  | f + 1, fr => if fr ≤ s.length then (match findE p s fr with
    | none => []
    | some (i, j) => if i < j then (i, j) :: allE p s f j else allE p s f (i + 1)) else []
theorem allE_fuel {p s : List UInt8} (hok : (parseT p).1 = 0) : ∀ (f f' fr : Nat), s.length + 1 ≤ fr + f → s.length + 1 ≤ fr + f' → allE p s f fr = allE p s f' fr
  | 0, 0, fr, _, _ => rfl
  | 0, f' + 1, fr, h, _ => by rw [allE, allE, if_neg (by omega)]
  | f + 1, 0, fr, _, h => by rw [allE, allE, if_neg (by omega)]
  | f + 1, f' + 1, fr, h, h' => by
    rw [allE, allE]
    split
    · rename_i hf
      cases he : findE p s fr with
      | none => rfl
      | some x =>
        obtain ⟨i, j⟩ := x
        obtain ⟨h1, h2, h3⟩ := findE_in hok hf he
        simp only
        split
        · rw [allE_fuel hok f f' j (by omega) (by omega)]
        · rw [allE_fuel hok f f' (i + 1) (by omega) (by omega)]
    · rfl
def spc (L : List (Nat × Nat)) : List Value := L.flatMap fun z => [.int .i64 z.1, .int .i64 z.2]
theorem spc_snoc (L : List (Nat × Nat)) (z : Nat × Nat) : spc (L ++ [z]) = spc L ++ [.int .i64 z.1, .int .i64 z.2] := by unfold spc; simp
theorem info_span : (Tryd.prog.info? 43).map (fun i => (i.zero, i.size, i.bytes)) = some (some (.agg #[.int .i64 0, .int .i64 0]), 2, 16) := by kernel_rfl
theorem uSpan : Tryd.prog.underlying 40 = some (.slice 43) := by kernel_rfl
def allP (p : List UInt8) (s : ByteArray) (w w' : World) (e : Ending) : Prop := ∃ v, e = .returned v ∧ Below w.heap.size w w' ∧ w'.ownsRow w.heap.size 43 2 v (allE p s.data.toList (s.size + 1) 0).length (spc (allE p s.data.toList (s.size + 1) 0))
set_option maxRecDepth 100000 in
set_option maxHeartbeats 3200000 in
theorem all_any (w0 w : World) (g : Nat) (l : List UInt8) (s : ByteArray) (hok : (parseT l).1 = 0) (hP : ProgIn w0 w g l) (hs : s.size ≤ 1000000000) :
    Calls Tryd.prog 16 #[.pointer (some ⟨g, 0, none⟩), .string s] w fun e w' => allP l s w w' e := by
  have hs1 : (s.size : Int) ≤ 1000000000 := by omega
  have HP := hd hP
  have Hok := hd hok
  have Hl := hd (len_data s)
  clear hP hok
  go_enter Tryd.func16, Tryd.ntmps16
  go_wp2_with fail
  go_loopg [5, 6] (s.size + 2) (fun f sv fv wr => ∃ (fr : Nat) (acc : List (Nat × Nat)) (ua : Option Addr) (uc : Nat), fv = .int .i64 fr ∧ sv = .slice ua acc.length uc ∧ fr ≤ s.size + 1 ∧ s.size + 1 < fr + f ∧ acc.length ≤ fr ∧ Hid (Below w.heap.size w wr) ∧ Hid (wr.ownsRow w.heap.size 43 2 (.slice ua acc.length uc) acc.length (spc acc)) ∧ Hid (acc ++ allE l s.data.toList (s.size + 1) fr = allE l s.data.toList (s.size + 1) 0))
  case atStart => exact ⟨0, [], none, 0, rfl, rfl, Nat.zero_le _, by omega, Nat.le_refl _, hd (Below.refl _ _), hd (World.ownsRow_nil _ _ _ _), hd rfl⟩
  case round =>
    obtain ⟨fr, acc, ua, uc, rfl, rfl, hfr, hf, hacc, HB, HO, HE⟩ := hrel
    have hfr0 : (0 : Int) ≤ (fr : Int) := by omega
    by_cases hle : fr ≤ s.size
    · have hle1 : (fr : Int) ≤ (s.size : Int) := by omega
      have Hfd : Hid (Calls Tryd.prog 17 #[.pointer (some ⟨g, 0, none⟩), .string s, .int .i64 fr] wr fun e w' => e = .returned (resE (findE l s.data.toList fr)) ∧ Below wr.heap.size wr w') := hd (by
        have := pfind_fun w0 wr g l s fr Hok.out (HP.out.below HB.out) hs
        rw [findI_nat _ _ (by rw [Hl.out]; exact hle)] at this
        exact this)
      have Hun : Hid (allE l s.data.toList (s.size + 1) fr = (match findE l s.data.toList fr with | none => [] | some (i, j) => if i < j then (i, j) :: allE l s.data.toList (s.size + 1) j else allE l s.data.toList (s.size + 1) (i + 1))) := hd (by
        rw [allE, if_pos (by rw [Hl.out]; exact hle)]
        cases he : findE l s.data.toList fr with
        | none => rfl
        | some x =>
          obtain ⟨i, j⟩ := x
          obtain ⟨h1, h2, h3⟩ := findE_in Hok.out (by rw [Hl.out]; exact hle) he
          simp only
          split
          · rw [allE_fuel Hok.out s.size (s.size + 1) j (by rw [Hl.out]; omega) (by rw [Hl.out]; omega)]
          · rw [allE_fuel Hok.out s.size (s.size + 1) (i + 1) (by rw [Hl.out]; omega) (by rw [Hl.out]; omega)])
      have Hin := hd (fun i j => findE_in (fr := fr) (a := i) (b := j) Hok.out (s := s.data.toList) (by rw [Hl.out]; exact hle))
      go_wp2_with fail
      refine Hfd.out.mono ?_
      rintro e1 w1 ⟨rfl, hb1⟩
      have HB1 := hd (HB.out.trans (hb1.mono HB.out.size))
      have HO1 : Hid (w1.ownsRow w.heap.size 43 2 (.slice ua acc.length uc) acc.length (spc acc)) := hd (owns_same HO.out (fun k hk => hb1.block k (HO.out.lt k hk).2))
      clear hb1 Hfd
      cases he : findE l s.data.toList fr with
      | none =>
        have HF : Hid (allP l s w w1 (.returned (.slice ua acc.length uc))) := hd (by
          have h := HE.out
          rw [Hun.out, he, List.append_nil] at h
          refine ⟨_, rfl, HB1.out, ?_⟩
          rw [← h]
          exact HO1.out)
        clear he Hun Hin HE HO HB HO1 HB1
        unfold resE
        go_wp2
        go_ret
        exact HF.out
      | some x =>
        obtain ⟨i, j⟩ := x
        obtain ⟨h1, h2, h3⟩ := Hin.out i j he
        rw [Hl.out] at h3
        have hi0 : (0 : Int) ≤ (i : Int) := by omega
        have hi1 : (i : Int) ≤ 1000000000 := by omega
        have hj1 : (j : Int) ≤ 1000000000 := by omega
        by_cases hij : i < j
        · have hijI : (i : Int) < (j : Int) := by omega
          have HE1 : Hid ((acc ++ [(i, j)]) ++ allE l s.data.toList (s.size + 1) j = allE l s.data.toList (s.size + 1) 0) := hd (by
            have h := HE.out
            rw [Hun.out, he] at h
            simp only at h
            rw [if_pos hij] at h
            rw [List.append_assoc]
            exact h)
          have hsz1 := HB1.out.size
          obtain ⟨i0, hi0', hz0, hz1, hz2⟩ := info_parts info_span
          clear he Hun Hin HE HO HB
          unfold resE
          go_wp2_with
            (refine wpList_append_lies _ (by rfl) _ _ _ (by rfl) w.heap.size 43 i0 _ 2 16 uSpan hi0' hz0 hz1 hz2 rfl (by omega) (.slice ua acc.length uc) acc.length (spc acc) (by rfl) (HO1.out.alloc _)
               ⟨w1.heap.size, 0, none⟩ 1 1 [.int .i64 i, .int .i64 j] (by rfl) (by rfl) (World.news_of_block (cs := #[.int .i64 i, .int .i64 j]) (t := 43) (fr := (0, 0)) (heap_alloc_new w1 _)) (by simp [Value.oneCell'])
               (by omega) (by unfold maxLen; omega) (by omega) (by simp; omega) (w1.heap.size + 1) (by simp) ?_
             intro gg cap w2 hown2 hgrow hat hlt
             have HB2 : Hid (Below w.heap.size w w2) := hd ⟨hgrow.os.trans HB1.out.os, hgrow.tape.trans HB1.out.tape, hgrow.output.trans HB1.out.output, (by have := hgrow.size; simp at this; omega), fun k hk => (hgrow.block k (by simp; omega) (fun e => by have := (HO1.out.lt k e.symm).1; omega)).trans ((Below.heap_alloc _ _ _ (by omega)).trans (HB1.out.block k hk))⟩
             have HO2 : Hid (w2.ownsRow w.heap.size 43 2 (.slice (some ⟨gg, 0, none⟩) (acc ++ [(i, j)]).length cap) (acc ++ [(i, j)]).length (spc (acc ++ [(i, j)]))) := hd (by rw [spc_snoc, List.length_append, List.length_singleton]; exact hown2)
             clear hown2 hgrow hat hlt)
          go_roundg (gk - 1)
          case measure => omega
          case rel => exact ⟨j, acc ++ [(i, j)], some ⟨gg, 0, none⟩, cap, rfl, by simp, by omega, by omega, by simp; omega, HB2, HO2, HE1⟩
        · have hijI : ¬ (i : Int) < (j : Int) := by omega
          have HE1 : Hid (acc ++ allE l s.data.toList (s.size + 1) (i + 1) = allE l s.data.toList (s.size + 1) 0) := hd (by
            have h := HE.out
            rw [Hun.out, he] at h
            simp only at h
            rw [if_neg hij] at h
            exact h)
          clear he Hun Hin HE HO HB
          unfold resE
          go_wp2
          go_roundg (gk - 1)
          case measure => omega
          case rel => exact ⟨i + 1, acc, ua, uc, by go_num, rfl, by omega, by omega, by omega, HB1, HO1, HE1⟩
    · have hle1 : ¬ (fr : Int) ≤ (s.size : Int) := by omega
      have HF : Hid (allP l s w wr (.returned (.slice ua acc.length uc))) := hd (by
        have h := HE.out
        rw [allE, if_neg (by rw [Hl.out]; exact hle), List.append_nil] at h
        refine ⟨_, rfl, HB.out, ?_⟩
        rw [← h]
        exact HO.out)
      clear HE HO HB
      go_wp2
      go_ret
      exact HF.out
end Go.Proofs.YtldiemjlpnachabDoor
