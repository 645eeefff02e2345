import Derived.Test.YtldiemjlpnachabDoorGx
/- The statements' own lines; a program that is alive. -/
namespace Go.Proofs.YtldiemjlpnachabDoor
open Go.RowKit

/-- the lines of a text, each with its line feed -/
def linesK : List UInt8 → List UInt8 → List (List UInt8)
  | cur, [] => if cur = [] then [] else [cur]
  | cur, c :: r => if c = 10 then (cur ++ [c]) :: linesK [] r else linesK (cur ++ [c]) r
def sts (L : List (List UInt8)) : List Value := L.map fun l => .string ⟨l.toArray⟩
theorem sts_snoc (L : List (List UInt8)) (l : List UInt8) : sts (L ++ [l]) = sts L ++ [.string ⟨l.toArray⟩] := by unfold sts; simp
theorem ext_eq (s : ByteArray) (a b : Nat) : s.extract a b = ⟨((s.data.toList.drop a).take (b - a)).toArray⟩ := by
  apply ByteArray.ext
  apply Array.toList_inj.1
  have := extract_list s a b
  rw [ByteArray.toList_eq] at this
  rw [this]
theorem info_str : (Tryd.prog.info? 9).map (fun i => (i.zero, i.size, i.bytes)) = some (some (.string ⟨#[]⟩), 1, 16) := by kernel_rfl
theorem uStrs : Tryd.prog.underlying 35 = some (.slice 9) := by kernel_rfl
def KlP (s : ByteArray) (w w' : World) (e : Ending) : Prop := ∃ v, e = .returned v ∧ Below w.heap.size w w' ∧ w'.ownsRow w.heap.size 9 1 v (linesK [] s.data.toList).length (sts (linesK [] s.data.toList))
set_option maxRecDepth 100000 in
set_option maxHeartbeats 3200000 in
theorem klines_any (w : World) (s : ByteArray) (hs : s.size ≤ 1000000000000) :
    Calls Tryd.prog 13 #[.string s] w fun e w' => KlP s w w' e := by
  have Hl := hd (len_data s)
  have hs1 : (s.size : Int) ≤ 1000000000000 := by omega
  go_enter Tryd.func13, Tryd.ntmps13
  go_wp2_with fail
  go_loopg [3, 4, 5] (s.size + 1) (fun f ov av iv wr => ∃ (a i : Nat) (L : List (List UInt8)) (ua : Option Addr) (uc : Nat), ov = .slice ua L.length uc ∧ av = .int .i64 a ∧ iv = .int .i64 i ∧ a ≤ i ∧ i ≤ s.size ∧ (i = s.size → a = i) ∧ s.size < i + f ∧ L.length ≤ i ∧ Hid (Below w.heap.size w wr) ∧ Hid (wr.ownsRow w.heap.size 9 1 (.slice ua L.length uc) L.length (sts L)) ∧ Hid (L ++ linesK ((s.data.toList.drop a).take (i - a)) (s.data.toList.drop i) = linesK [] s.data.toList))
  case atStart => exact ⟨0, 0, [], none, 0, rfl, rfl, rfl, Nat.le_refl _, Nat.zero_le _, fun _ => rfl, by omega, Nat.le_refl _, hd (Below.refl _ _), hd (World.ownsRow_nil _ _ _ _), hd rfl⟩
  case round =>
    obtain ⟨a, i, L, ua, uc, rfl, rfl, rfl, hai, his, hae, hif, hLi, HB, HO, HR⟩ := hrel
    have ha0 : (0 : Int) ≤ (a : Int) := by omega
    have hi0 : (0 : Int) ≤ (i : Int) := by omega
    have haI : (a : Int) ≤ (i : Int) + 1 := by omega
    by_cases hlt : i < s.size
    · have hlt1 : (i : Int) < (s.size : Int) := by omega
      have hil : i < s.data.toList.length := by rw [Hl.out]; exact hlt
      have Hch : Hid ((s[i]'hlt).toNat = (s.data.toList[i]).toNat) := hd (by
        rw [ch_get s i hlt]
        unfold ch
        rw [List.getElem?_eq_getElem hil]
        rfl)
      have Hdr : Hid (s.data.toList.drop i = s.data.toList[i] :: s.data.toList.drop (i + 1)) := hd (List.drop_eq_getElem_cons hil)
      have Hcs := hd (cut_snoc hai hil)
      have HX : Hid (s.extract a (i + 1) = ⟨((s.data.toList.drop a).take (i + 1 - a)).toArray⟩) := hd (ext_eq s a (i + 1))
      obtain ⟨i0, hi0', hz0, hz1, hz2⟩ := info_parts info_str
      have hsz := HB.out.size
      have HN : Hid ((L ++ [(s.data.toList.drop a).take (i + 1 - a)]).length = L.length + 1) := hd (by simp)
      have Happ : Hid (∀ (w2 : World) (gg cap : Nat) (ob : Obj), w2.ownsRow w.heap.size 9 1 (.slice (some ⟨gg, 0, none⟩) (L.length + 1) cap) (L.length + 1) (sts L ++ [.string (s.extract a (i + 1))]) → (wr.alloc ob).grownBy w2 (Value.slice ua L.length uc).ownBlock → Below w.heap.size w w2 ∧ w2.ownsRow w.heap.size 9 1 (.slice (some ⟨gg, 0, none⟩) (L ++ [(s.data.toList.drop a).take (i + 1 - a)]).length cap) (L ++ [(s.data.toList.drop a).take (i + 1 - a)]).length (sts (L ++ [(s.data.toList.drop a).take (i + 1 - a)]))) := hd (fun w2 gg cap ob hown hgrow => by
        refine ⟨⟨hgrow.os.trans HB.out.os, hgrow.tape.trans HB.out.tape, hgrow.output.trans HB.out.output, by have := hgrow.size; simp at this; omega, fun k hk => (hgrow.block k (by simp; omega) (fun e => by have := (HO.out.lt k e.symm).1; omega)).trans ((Below.heap_alloc _ _ _ (by omega)).trans (HB.out.block k hk))⟩, ?_⟩
        rw [HN.out, sts_snoc, ← HX.out]
        exact hown)
      by_cases hc : s.data.toList[i] = 10
      · have hcb : (((s[i]'hlt).toNat : Int) == 10) = true := by rw [Hch.out, hc]; decide
        have HR1 : Hid ((L ++ [(s.data.toList.drop a).take (i + 1 - a)]) ++ linesK ((s.data.toList.drop (i + 1)).take (i + 1 - (i + 1))) (s.data.toList.drop (i + 1)) = linesK [] s.data.toList) := hd (by
          have h := HR.out
          rw [Hdr.out, linesK, if_pos hc, Hcs.out] at h
          rw [Nat.sub_self, List.take_zero, List.append_assoc]
          exact h)
        clear hc Hch Hdr Hcs HR
        go_wp2_with
          (refine wpList_append_lies _ (by rfl) _ _ _ (by rfl) w.heap.size 9 i0 _ 1 16 uStrs hi0' hz0 hz1 hz2 rfl (by omega) (.slice ua L.length uc) L.length (sts L) (by rfl) (HO.out.alloc _)
             ⟨wr.heap.size, 0, none⟩ 1 1 [.string (s.extract a (i + 1))] (by rfl) (by rfl) (World.news_of_block (cs := #[.string (s.extract a (i + 1))]) (t := 9) (fr := (0, 0)) (heap_alloc_new wr _)) (by simp [Value.oneCell'])
             (by omega) (by unfold maxLen; omega) (by omega) (by simp; omega) (wr.heap.size + 1) (by simp) ?_
           intro gg cap w2 hown2 hgrow hat hlt2
           have HQ := hd (Happ.out w2 gg cap _ hown2 hgrow)
           clear hown2 hgrow hat hlt2)
        go_roundg (gk - 1)
        case measure => omega
        case rel => exact ⟨i + 1, i + 1, L ++ [(s.data.toList.drop a).take (i + 1 - a)], some ⟨gg, 0, none⟩, cap, by rw [HN.out], by go_num, by go_num, Nat.le_refl _, by omega, fun _ => rfl, by omega, by rw [HN.out]; omega, hd HQ.out.1, hd HQ.out.2, HR1⟩
      · have hcb : (((s[i]'hlt).toNat : Int) == 10) = false := by
          rw [beq_eq_false_iff_ne, Hch.out]
          intro h
          apply hc
          apply UInt8.toNat_inj.1
          show _ = 10
          omega
        by_cases hend : i + 1 = s.size
        · have hendB : ((i : Int) == (s.size : Int) - 1) = true := by simp; omega
          have HR1 : Hid ((L ++ [(s.data.toList.drop a).take (i + 1 - a)]) ++ linesK ((s.data.toList.drop (i + 1)).take (i + 1 - (i + 1))) (s.data.toList.drop (i + 1)) = linesK [] s.data.toList) := hd (by
            have h := HR.out
            have hd0 : s.data.toList.drop (i + 1) = [] := List.drop_eq_nil_of_le (by rw [Hl.out]; omega)
            rw [Hdr.out, linesK, if_neg hc, Hcs.out, hd0, linesK, if_neg (by
              intro e
              have := congrArg List.length e
              rw [List.length_take, List.length_drop, Hl.out] at this
              simp at this
              omega)] at h
            rw [hd0, Nat.sub_self, List.take_zero, linesK, if_pos rfl, List.append_nil]
            exact h)
          clear hc Hch Hdr Hcs HR hend
          go_wp2_with
            (refine wpList_append_lies _ (by rfl) _ _ _ (by rfl) w.heap.size 9 i0 _ 1 16 uStrs hi0' hz0 hz1 hz2 rfl (by omega) (.slice ua L.length uc) L.length (sts L) (by rfl) (HO.out.alloc _)
               ⟨wr.heap.size, 0, none⟩ 1 1 [.string (s.extract a (i + 1))] (by rfl) (by rfl) (World.news_of_block (cs := #[.string (s.extract a (i + 1))]) (t := 9) (fr := (0, 0)) (heap_alloc_new wr _)) (by simp [Value.oneCell'])
               (by omega) (by unfold maxLen; omega) (by omega) (by simp; omega) (wr.heap.size + 1) (by simp) ?_
             intro gg cap w2 hown2 hgrow hat hlt2
             have HQ := hd (Happ.out w2 gg cap _ hown2 hgrow)
             clear hown2 hgrow hat hlt2)
          go_roundg (gk - 1)
          case measure => omega
          case rel => exact ⟨i + 1, i + 1, L ++ [(s.data.toList.drop a).take (i + 1 - a)], some ⟨gg, 0, none⟩, cap, by rw [HN.out], by go_num, by go_num, Nat.le_refl _, by omega, fun _ => rfl, by omega, by rw [HN.out]; omega, hd HQ.out.1, hd HQ.out.2, HR1⟩
        · have hendB : ((i : Int) == (s.size : Int) - 1) = false := by simp; omega
          have HR1 : Hid (L ++ linesK ((s.data.toList.drop a).take (i + 1 - a)) (s.data.toList.drop (i + 1)) = linesK [] s.data.toList) := hd (by
            have h := HR.out
            rw [Hdr.out, linesK, if_neg hc, Hcs.out] at h
            exact h)
          clear hc Hch Hdr Hcs HR Happ HN HX
          go_wp2
          go_roundg (gk - 1)
          case measure => omega
          case rel => exact ⟨a, i + 1, L, ua, uc, rfl, rfl, by go_num, by omega, by omega, fun h => absurd h hend, by omega, by omega, HB, HO, HR1⟩
    · obtain rfl : i = s.size := by omega
      obtain rfl := hae rfl
      have HF : Hid (KlP s w wr (.returned (.slice ua L.length uc))) := hd (by
        have h := HR.out
        rw [Nat.sub_self, List.take_zero, List.drop_eq_nil_of_le (by rw [Hl.out]; exact Nat.le_refl _), linesK, if_pos rfl, List.append_nil] at h
        refine ⟨_, rfl, HB.out, ?_⟩
        rw [← h]
        exact HO.out)
      clear HR HO HB
      go_wp2
      go_ret
      exact HF.out
end Go.Proofs.YtldiemjlpnachabDoor
