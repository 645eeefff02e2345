import Derived.Test.YtldiemjlpnachaaDoorLit
import Derived.Laws.IdiomStrings
namespace Go.Proofs.YtldiemjlpnachaaDoor
open Go.RowKit

def abcC (c : UInt8) : UInt8 := if c.toNat % 3 = 0 then 97 else if c.toNat % 3 = 1 then 98 else 99
/-- a row of bytes lies in block T -/
structure Byt (w : World) (T : Nat) (l : List UInt8) : Prop where
  cell : ∀ (j : Nat) c, l[j]? = some c → w.cell? ⟨T, j, none⟩ = some (.int .u8 c.toNat)
  free : ∀ j, j < l.length → w.frozen? ⟨T, j, none⟩ = false
theorem byt_new (w : World) (s : ByteArray) (cap : Nat) (t : TypeId) : Byt (w.alloc (.cells (bytesRow s cap) t ((bytesRow s cap).size, (bytesRow s cap).size + 1))).drew w.heap.size s.data.toList := by
  have hb : (w.alloc (.cells (bytesRow s cap) t ((bytesRow s cap).size, (bytesRow s cap).size + 1))).drew.heap[w.heap.size]? = some (.cells (bytesRow s cap) t ((bytesRow s cap).size, (bytesRow s cap).size + 1)) := heap_alloc_new w _
  refine ⟨fun j c hj => ?_, fun j hj => ?_⟩
  · rw [cell_of_row _ _ _ _ _ _ hb]
    have hj' : j < s.data.size := by have := (List.getElem?_eq_some_iff.1 hj).1; simpa using this
    rw [bytesRow_at s cap j hj']
    have : s.data[j] = c := by
      have h2 := (List.getElem?_eq_some_iff.1 hj).2
      simpa using h2
    rw [this]
  · have hsz : j < (bytesRow s cap).size := by unfold bytesRow; simp at hj ⊢; omega
    unfold World.frozen?
    simp only []
    rw [hb]
    simp
    omega
theorem Byt.set {w : World} {T k : Nat} {l : List UInt8} (h : Byt w T l) (hk : k < l.length) (c : UInt8) (v : Int) (hv : v = c.toNat) : Byt (w.setCell ⟨T, k, none⟩ (.int .u8 v)) T (l.set k c) := by
  subst hv
  refine ⟨fun j d hj => ?_, fun j hj => by rw [World.frozen?_setCell]; exact h.free j (by simpa using hj)⟩
  by_cases e : k = j
  · subst e
    rw [List.getElem?_set_self hk] at hj
    cases hj
    exact World.cell?_setCell_same _ _ _ (h.cell k l[k] (List.getElem?_eq_getElem hk))
  · rw [List.getElem?_set_ne e] at hj
    exact (ne_set e).trans (h.cell j d hj)
/-- the first k bytes as letters -/
def abcK (l : List UInt8) (k : Nat) : List UInt8 := (l.take k).map abcC ++ l.drop k
theorem abcK_len (l : List UInt8) (k : Nat) : (abcK l k).length = l.length := by unfold abcK; simp; omega
theorem abcK_at (l : List UInt8) (k : Nat) (h : k < l.length) : (abcK l k)[k]? = some l[k] := by
  unfold abcK
  rw [List.getElem?_append_right (by simp; omega)]
  simp [List.getElem?_drop, Nat.min_eq_left (Nat.le_of_lt h), h]
theorem abcK_step (l : List UInt8) (k : Nat) (h : k < l.length) : (abcK l k).set k (abcC l[k]) = abcK l (k + 1) := by
  unfold abcK
  rw [List.set_append_right _ _ (by simp; omega), List.length_map, List.length_take, Nat.min_eq_left (Nat.le_of_lt h), Nat.sub_self, List.drop_eq_getElem_cons h, List.set_cons_zero, List.take_succ_eq_append_getElem h, List.map_append, List.append_assoc]
  rfl
set_option maxHeartbeats 1600000 in
theorem abc_any (s : ByteArray) (w : World) (hs : s.size ≤ 140737488351300) :
    Calls Tryd.prog 25 #[.string s] w fun e w' => (∃ t : ByteArray, e = .returned (.string t) ∧ t.data.toList = s.data.toList.map abcC) ∧ Below w.heap.size w w' := by
  have hcv := fun w0 => run_bytes_of_string (P := Tryd.prog) w0 9 54 5 s Tryd.underlying9 Tryd.underlying54 Tryd.underlying5
  go_enter Tryd.func25, Tryd.ntmps25
  go_wp2
  have HB0 := hd (byt_new w s (grownCap w s.size 0 5) 5)
  have Hb0 : Hid (Below w.heap.size w (w.alloc (.cells (bytesRow s (grownCap w s.size 0 5)) 5 ((bytesRow s (grownCap w s.size 0 5)).size, (bytesRow s (grownCap w s.size 0 5)).size + 1))).drew) := hd ((Below.refl _ _).alloc (Nat.le_refl _) _).drew
  generalize (w.alloc (.cells (bytesRow s (grownCap w s.size 0 5)) 5 ((bytesRow s (grownCap w s.size 0 5)).size, (bytesRow s (grownCap w s.size 0 5)).size + 1))).drew = W at HB0 Hb0 ⊢
  generalize grownCap w s.size 0 5 = cp
  have Hl := hd (len_data s)
  generalize hT : w.heap.size = T at HB0 Hb0 ⊢
  clear hcv
  go_loopw [10] (fun iv wr => ∃ k : Nat, iv = .int .i64 k ∧ k ≤ s.size ∧ Byt wr T (abcK s.data.toList k) ∧ Hid (Below T w wr)) (fun iv _ => s.size - (intOf iv).toNat)
  case atStart => exact ⟨0, rfl, Nat.zero_le _, by have := HB0.out; simpa [abcK] using this, Hb0⟩
  case round =>
    obtain ⟨k, rfl, hk, hB, Hb⟩ := hrel
    by_cases hlt : k < s.size
    · have hkl : k < s.data.toList.length := by rw [Hl.out]; exact hlt
      have hc := hB.cell k _ (abcK_at s.data.toList k hkl)
      have hf := hB.free k (by rw [abcK_len]; exact hkl)
      have k0 : (0 : Int) ≤ (k : Int) := by omega
      have k1 : (k : Int) < (s.size : Int) := by omega
      generalize hcc : s.data.toList[k] = c at hc
      have hst : ∀ v : Int, v = (abcC c).toNat → Byt (wr.setCell ⟨T, k, none⟩ (.int .u8 v)) T (abcK s.data.toList (k + 1)) := fun v hv => by
        rw [← abcK_step s.data.toList k hkl, hcc]
        exact hB.set (by rw [abcK_len]; exact hkl) _ _ hv
      have Hst := hd hst
      clear hst hcc
      have hm : (c.toNat : Int) % 3 = 0 ∨ (c.toNat : Int) % 3 = 1 ∨ (c.toNat : Int) % 3 = 2 := by omega
      rcases hm with hm | hm | hm
      · have hv : ((97 : UInt8).toNat : Int) = (abcC c).toNat := by unfold abcC; rw [if_pos (by omega)]
        have Hv := hd hv
        clear hv
        go_wp2
        go_roundw
        case rel => exact ⟨k + 1, by go_num, by omega, Hst.out _ Hv.out, hd (Hb.out.setCell (Nat.le_refl _) _)⟩
        case measure => simp [intOf]; omega
      · have hv : ((98 : UInt8).toNat : Int) = (abcC c).toNat := by unfold abcC; rw [if_neg (by omega), if_pos (by omega)]
        have Hv := hd hv
        clear hv
        go_wp2
        go_roundw
        case rel => exact ⟨k + 1, by go_num, by omega, Hst.out _ Hv.out, hd (Hb.out.setCell (Nat.le_refl _) _)⟩
        case measure => simp [intOf]; omega
      · have hv : ((99 : UInt8).toNat : Int) = (abcC c).toNat := by unfold abcC; rw [if_neg (by omega), if_neg (by omega)]
        have Hv := hd hv
        clear hv
        go_wp2
        go_roundw
        case rel => exact ⟨k + 1, by go_num, by omega, Hst.out _ Hv.out, hd (Hb.out.setCell (Nat.le_refl _) _)⟩
        case measure => simp [intOf]; omega
    · have hke : abcK s.data.toList k = s.data.toList.map abcC := by unfold abcK; rw [List.take_of_length_le (by rw [Hl.out]; omega), List.drop_eq_nil_of_le (by rw [Hl.out]; omega), List.append_nil]
      rw [hke] at hB
      have hcv2 : (convert 54 9 (.slice (some ⟨T, 0, none⟩) s.size cp)).run Tryd.prog wr = .ok (.string ⟨(s.data.toList.map abcC).toArray⟩) wr := by
        have := run_convert_bytes_back (P := Tryd.prog) wr 54 9 5 ⟨T, 0, none⟩ cp (s.data.toList.map abcC) Tryd.underlying54 Tryd.underlying5 Tryd.underlying9 (fun j hj => by
          have e : (⟨T, 0, none⟩ : Addr).add j = ⟨T, j, none⟩ := by unfold Addr.add; split <;> simp_all
          rw [e]
          exact hB.cell j _ (List.getElem?_eq_getElem hj))
        rw [List.length_map, Hl.out] at this
        exact this
      go_wp2
      go_ret
      exact ⟨⟨_, rfl, rfl⟩, hT ▸ Hb.out⟩
end Go.Proofs.YtldiemjlpnachaaDoor
