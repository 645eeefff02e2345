import Derived.Test.YtldiemjlpnachabDoorGr
import Derived.Lib.ItoaLen
/- A search of a text: put. -/
namespace Go.Proofs.YtldiemjlpnachabDoor
open Go.RowKit

theorem itoa_len (n : Nat) (h : n ≤ 1000000000) : (Lib.itoa (n : Int)).length ≤ 21 := Lib.itoa_length_le _ (by omega) (by omega)
theorem below_grow (w : World) (k : Nat) (os : Array Obj) : Below w.heap.size w (Go.Sort.grow (w.drewN k) os) :=
  ⟨rfl, rfl, rfl, by show w.heap.size ≤ (w.heap ++ os).size; simp, fun i hi => by show (w.heap ++ os)[i]? = _; rw [Array.getElem?_append_left hi]⟩
set_option maxRecDepth 100000 in
set_option maxHeartbeats 3200000 in
theorem gput_any {w : World} {S g : Nat} {o : Opt} {num ch : Nat} {out : List UInt8} (m : Gs w S g o num ch out) (ht : Tb w) (line : ByteArray) (hl : line.size ≤ 1000000) (ho : out.length ≤ 100000000000) (hn : num ≤ 1000000) :
    Calls Tryd.prog 45 #[.pointer (some ⟨S, 0, none⟩), .string line] w fun e w' => e = .returned (.tuple #[]) ∧ Gs w' S g o num ch (out ++ fmtL o num line.data.toList) ∧ Gf w w' S := by
  have lS := m.lt
  have c4 := m.c4
  obtain ⟨v, c7, ho7⟩ := m.c7
  obtain ⟨ua, uc, rfl⟩ := owns_shape ho7
  have f7 := m.f 7
  have c5 := m.c5
  obtain ⟨i0, hi0, hz0, hz1, hz2⟩ := info_parts info_u8
  have Hm := hd m
  have Ho7 := hd ho7
  have Ht := hd ht
  have Hll := hd (len_data line)
  clear m ho7 ht
  cases hnb : o.number
  · rw [hnb] at c4
    have HF : Hid (fmtL o num line.data.toList = line.data.toList ++ [10]) := hd (by unfold fmtL; rw [if_neg (by rw [hnb]; simp), List.nil_append])
    clear hnb
    go_enter Tryd.func45, Tryd.ntmps45
    go_upto_region 5 with
      (refine Lib.wpList_append_own_string _ rfl (.tmp 37) (.tmp 38) 23 9 rfl (S + 1) 5 i0 uBytes uStr hi0 hz0 hz1 hz2 (.slice ua out.length uc) out.length (byC out) (by rfl) Ho7.out line (by rfl) (by unfold maxLen; omega) (by omega) (by omega) ?_
       intro v2 w2 hown2 hgrow2 _
       obtain ⟨va2, vc2, rfl⟩ := owns_shape hown2
       obtain ⟨r7, rf7, hm2, hb2⟩ := Hm.out.app (add := line.data.toList) c7 (by rw [Hll.out]; exact hown2) hgrow2
       have Hm2 := hd hm2
       have Hb2 := hd hb2
       clear hown2 hgrow2 hm2 hb2)
    clear r7 rf7 c7 f7 Ho7 c4 c5 lS
    have hlen : (out ++ line.data.toList).length = out.length + line.size := by rw [List.length_append, Hll.out]
    obtain ⟨v3, c7, ho3⟩ := Hm2.out.c7
    rw [hlen] at ho3
    obtain ⟨ub, ud, rfl⟩ := owns_shape ho3
    have Ho3 := hd ho3
    have f7 := Hm2.out.f 7
    have lS := Hm2.out.lt
    generalize w2.setCell ⟨S, 7, none⟩ (.slice va2 (out.length + line.size) vc2) = W3 at *
    clear ho3
    go_wp2_with
      (refine wpList_append_lies _ (by rfl) _ _ _ (by rfl) (S + 1) 5 i0 _ 1 1 uBytes hi0 hz0 hz1 hz2 rfl (by omega) (.slice ub (out.length + line.size) ud) (out.length + line.size) (byC (out ++ line.data.toList)) (by rfl) (Ho3.out.alloc _)
         ⟨W3.heap.size, 0, none⟩ 1 1 [.int .u8 10] (by rfl) (by rfl) (World.news_of_block (cs := #[.int .u8 10]) (t := 5) (fr := (0, 0)) (heap_alloc_new W3 _)) (by simp [Value.oneCell'])
         (by omega) (by unfold maxLen; omega) (by omega) (by simp; omega) (W3.heap.size + 1) (by simp) ?_
       intro gg cap w4 hown4 hgrow4 hat hlt
       obtain ⟨r7, rf7, hm4, hb4⟩ := (Hm2.out.alloc _).app (add := [10]) ((World.cell?_alloc_lt _ _ _ lS).trans c7) (by rw [hlen]; exact hown4) hgrow4
       have HZ : Hid (Gs (w4.setCell ⟨S, 7, none⟩ (.slice (some ⟨gg, 0, none⟩) (out.length + line.size + 1) cap)) S g o num ch (out ++ fmtL o num line.data.toList) ∧ Gf w (w4.setCell ⟨S, 7, none⟩ (.slice (some ⟨gg, 0, none⟩) (out.length + line.size + 1) cap)) S) := hd ⟨by rw [HF.out, ← List.append_assoc]; exact hm4, Hb2.out.trans ((Gf.alloc (by omega) _).trans hb4)⟩
       clear hown4 hgrow4 hat hlt hm4 hb4)
    go_end0
    exact ⟨rfl, HZ.out.1, HZ.out.2⟩
  · rw [hnb] at c4
    have HF : Hid (fmtL o num line.data.toList = Lib.itoa (num : Int) ++ [58] ++ line.data.toList ++ [10]) := hd (by unfold fmtL; rw [if_pos hnb])
    obtain ⟨A, hA⟩ : ∃ A : ByteArray, A = ⟨(Lib.itoa (num : Int)).toArray⟩ := ⟨_, rfl⟩
    have Hit : Hid (Calls Tryd.prog 23 #[.int .i64 (num : Int)] w fun e w' => e = .returned (.string A) ∧ ∃ k os, w' = Go.Sort.grow (w.drewN k) os) := hd (by rw [hA]; exact Tryd.strconv_Itoa (num : Int) (by omega) (by omega) w Ht.out)
    have HAl : Hid (A.size = (Lib.itoa (num : Int)).length) := hd (by rw [hA]; simp [ByteArray.size])
    have HAd : Hid (A.data.toList = Lib.itoa (num : Int)) := hd (by rw [hA])
    clear hA
    have hA21 := itoa_len num (by omega)
    clear hnb f7 c7 Ho7
    go_enter Tryd.func45, Tryd.ntmps45
    go_wp2_with fail
    refine Hit.out.mono ?_
    rintro e1 w1 ⟨rfl, k, os, hw1⟩
    have HB : Hid (Gf w w1 S) := hd (by subst hw1; exact Gf.of (below_grow w k os) (Nat.le_of_lt lS))
    have HmA : Hid (Gs w1 S g o num ch out) := hd (by subst hw1; exact Hm.out.below (below_grow w k os))
    clear hw1 Hit Hm c4 c5 lS
    have hAs : A.size ≤ 21 := by rw [HAl.out]; exact hA21
    obtain ⟨v0, c7, ho0⟩ := HmA.out.c7
    obtain ⟨ub, ud, rfl⟩ := owns_shape ho0
    have Ho0 := hd ho0
    have f7 := HmA.out.f 7
    have lS := HmA.out.lt
    clear ho0
    go_upto_region 3 with
      (refine Lib.wpList_append_own_string _ rfl (.tmp 19) (.tmp 20) 23 9 rfl (S + 1) 5 i0 uBytes uStr hi0 hz0 hz1 hz2 (.slice ub (out.length) ud) (out.length) (byC (out)) (by rfl) Ho0.out A (by rfl) (by unfold maxLen; omega) (by omega) (by omega) ?_
       intro v2 w2 hown2 hgrow2 _
       obtain ⟨va2, vc2, rfl⟩ := owns_shape hown2
       obtain ⟨r7, rf7, hm2, hb2⟩ := HmA.out.app (add := Lib.itoa (num : Int)) c7 (by rw [← HAl.out, ← HAd.out, ← byC_str]; exact hown2) hgrow2
       have Hm2 := hd hm2
       have Hb2 := hd (HB.out.trans hb2)
       clear hown2 hgrow2 hm2 hb2)
    clear r7 rf7 c7 f7 Ho0 lS HB HmA
    generalize w2.setCell ⟨S, 7, none⟩ (.slice va2 (out.length + A.size) vc2) = W2 at *
    have HB := Hb2
    clear Hb2
    have Hlen : Hid ((out ++ Lib.itoa (num : Int)).length = out.length + A.size) := hd (by rw [List.length_append, HAl.out])
    obtain ⟨v0, c7, ho0⟩ := Hm2.out.c7
    rw [Hlen.out] at ho0
    obtain ⟨ub, ud, rfl⟩ := owns_shape ho0
    have Ho0 := hd ho0
    have f7 := Hm2.out.f 7
    have lS := Hm2.out.lt
    clear ho0
    go_upto_region 4 with
      (refine wpList_append_lies _ (by rfl) _ _ _ (by rfl) (S + 1) 5 i0 _ 1 1 uBytes hi0 hz0 hz1 hz2 rfl (by omega) (.slice ub (out.length + A.size) ud) (out.length + A.size) (byC (out ++ Lib.itoa (num : Int))) (by rfl) (Ho0.out.alloc _)
         ⟨W2.heap.size, 0, none⟩ 1 1 [.int .u8 58] (by rfl) (by rfl) (World.news_of_block (cs := #[.int .u8 58]) (t := 5) (fr := (0, 0)) (heap_alloc_new W2 _)) (by simp [Value.oneCell'])
         (by omega) (by unfold maxLen; omega) (by omega) (by simp; omega) (W2.heap.size + 1) (by simp) ?_
       intro gg3 cap3 w3 hown3 hgrow3 hat hlt
       obtain ⟨r7, rf7, hm3, hb3⟩ := (Hm2.out.alloc _).app (add := [58]) ((World.cell?_alloc_lt _ _ _ lS).trans c7) (by rw [Hlen.out]; exact hown3) hgrow3
       have Hm3 := hd hm3
       have Hb3 := hd (HB.out.trans ((Gf.alloc (by omega) _).trans hb3))
       clear hown3 hgrow3 hat hlt hm3 hb3)
    clear r7 rf7 c7 f7 Ho0 lS HB Hm2
    generalize w3.setCell ⟨S, 7, none⟩ (.slice (some ⟨gg3, 0, none⟩) (out.length + A.size + 1) cap3) = W3 at *
    have HB := Hb3
    clear Hb3
    clear Hlen
    have Hlen : Hid ((out ++ Lib.itoa (num : Int) ++ [58]).length = out.length + A.size + 1) := hd (by rw [List.length_append, List.length_append, HAl.out]; rfl)
    obtain ⟨v0, c7, ho0⟩ := Hm3.out.c7
    rw [Hlen.out] at ho0
    obtain ⟨ub, ud, rfl⟩ := owns_shape ho0
    have Ho0 := hd ho0
    have f7 := Hm3.out.f 7
    have lS := Hm3.out.lt
    clear ho0
    go_upto_region 5 with
      (refine Lib.wpList_append_own_string _ rfl (.tmp 37) (.tmp 38) 23 9 rfl (S + 1) 5 i0 uBytes uStr hi0 hz0 hz1 hz2 (.slice ub (out.length + A.size + 1) ud) (out.length + A.size + 1) (byC (out ++ Lib.itoa (num : Int) ++ [58])) (by rfl) Ho0.out line (by rfl) (by unfold maxLen; omega) (by omega) (by omega) ?_
       intro v4 w4 hown4 hgrow4 _
       obtain ⟨va4, vc4, rfl⟩ := owns_shape hown4
       obtain ⟨r7, rf7, hm4, hb4⟩ := Hm3.out.app (add := line.data.toList) c7 (by rw [Hlen.out, Hll.out]; exact hown4) hgrow4
       have Hm4 := hd hm4
       have Hb4 := hd (HB.out.trans hb4)
       clear hown4 hgrow4 hm4 hb4)
    clear r7 rf7 c7 f7 Ho0 lS HB Hm3
    generalize w4.setCell ⟨S, 7, none⟩ (.slice va4 (out.length + A.size + 1 + line.size) vc4) = W4 at *
    have HB := Hb4
    clear Hb4
    clear Hlen
    have Hlen : Hid ((out ++ Lib.itoa (num : Int) ++ [58] ++ line.data.toList).length = out.length + A.size + 1 + line.size) := hd (by rw [List.length_append, List.length_append, List.length_append, HAl.out, Hll.out]; rfl)
    obtain ⟨v0, c7, ho0⟩ := Hm4.out.c7
    rw [Hlen.out] at ho0
    obtain ⟨ub, ud, rfl⟩ := owns_shape ho0
    have Ho0 := hd ho0
    have f7 := Hm4.out.f 7
    have lS := Hm4.out.lt
    clear ho0
    go_wp2_with
      (refine wpList_append_lies _ (by rfl) _ _ _ (by rfl) (S + 1) 5 i0 _ 1 1 uBytes hi0 hz0 hz1 hz2 rfl (by omega) (.slice ub (out.length + A.size + 1 + line.size) ud) (out.length + A.size + 1 + line.size) (byC (out ++ Lib.itoa (num : Int) ++ [58] ++ line.data.toList)) (by rfl) (Ho0.out.alloc _)
         ⟨W4.heap.size, 0, none⟩ 1 1 [.int .u8 10] (by rfl) (by rfl) (World.news_of_block (cs := #[.int .u8 10]) (t := 5) (fr := (0, 0)) (heap_alloc_new W4 _)) (by simp [Value.oneCell'])
         (by omega) (by unfold maxLen; omega) (by omega) (by simp; omega) (W4.heap.size + 1) (by simp) ?_
       intro gg5 cap5 w5 hown5 hgrow5 hat hlt
       obtain ⟨r7, rf7, hm5, hb5⟩ := (Hm4.out.alloc _).app (add := [10]) ((World.cell?_alloc_lt _ _ _ lS).trans c7) (by rw [Hlen.out]; exact hown5) hgrow5
       have Hm5 := hd hm5
       have Hb5 := hd (HB.out.trans ((Gf.alloc (by omega) _).trans hb5))
       clear hown5 hgrow5 hat hlt hm5 hb5)
    go_end0
    refine ⟨rfl, ?_, Hb5.out⟩
    have h := Hm5.out
    rw [HF.out]
    simp only [List.append_assoc] at h ⊢
    exact h
end Go.Proofs.YtldiemjlpnachabDoor
