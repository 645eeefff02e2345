import Derived.Test.YtldiemjlpnachaaDoorRd
import Derived.Test.YtldiemjlpnachaaDoorBrk
namespace Go.Proofs.YtldiemjlpnachaaDoor
open Go.RowKit

theorem set_new (w : World) (o1 : Obj) (k : Value) (r9 r10 r11 r12 : Value) (t : TypeId) : SetAt ((w.alloc o1).alloc (.cells #[k, .int .u32 0, .int .u32 0, .int .u32 0, .int .u32 0, .int .u32 0, .int .u32 0, .int .u32 0, .int .u32 0, r9, r10, r11, r12] t)) (w.heap.size + 1) 1 := by
  intro i hi
  refine ⟨⟨0, ?_⟩, by simp⟩
  rcases (show i = 0 ∨ i = 1 ∨ i = 2 ∨ i = 3 ∨ i = 4 ∨ i = 5 ∨ i = 6 ∨ i = 7 by omega) with rfl | rfl | rfl | rfl | rfl | rfl | rfl | rfl <;> simp

theorem setis_new (w : World) (o1 : Obj) (k : Value) (r9 r10 r11 r12 : Value) (t : TypeId) : SetIs ((w.alloc o1).alloc (.cells #[k, .int .u32 0, .int .u32 0, .int .u32 0, .int .u32 0, .int .u32 0, .int .u32 0, .int .u32 0, .int .u32 0, r9, r10, r11, r12] t)) (w.heap.size + 1) 1 noS := by
  intro i hi
  refine ⟨0, ?_, Word.zero i⟩
  rcases (show i = 0 ∨ i = 1 ∨ i = 2 ∨ i = 3 ∨ i = 4 ∨ i = 5 ∨ i = 6 ∨ i = 7 by omega) with rfl | rfl | rfl | rfl | rfl | rfl | rfl | rfl <;> simp

theorem byte_a {w w2 : World} (hs : SetAt w2 (w.heap.size + 1) 1) (ho : Only ((w.alloc (.cells #[.int .i64 0, .int .u32 0, .int .u32 0, .int .u32 0, .int .u32 0, .int .u32 0, .int .u32 0, .int .u32 0, .int .u32 0, .int .i64 0, .int .i64 0, .int .i64 0, .slice none 0 0] 156)).alloc (.cells #[.int .i64 0, .int .u32 0, .int .u32 0, .int .u32 0, .int .u32 0, .int .u32 0, .int .u32 0, .int .u32 0, .int .u32 0, .int .i64 0, .int .i64 0, .int .i64 0, .slice none 0 0] 156)) w2 (w.heap.size + 1) 1 8) : ∃ a0 a1 a2 a3 a4 a5 a6 a7 : Int, w2.cell? ⟨w.heap.size + 1, 0, none⟩ = some (.int .i64 0) ∧ w2.cell? ⟨w.heap.size + 1, 1, none⟩ = some (.int .u32 a0) ∧ w2.cell? ⟨w.heap.size + 1, 2, none⟩ = some (.int .u32 a1) ∧ w2.cell? ⟨w.heap.size + 1, 3, none⟩ = some (.int .u32 a2) ∧ w2.cell? ⟨w.heap.size + 1, 4, none⟩ = some (.int .u32 a3) ∧ w2.cell? ⟨w.heap.size + 1, 5, none⟩ = some (.int .u32 a4) ∧ w2.cell? ⟨w.heap.size + 1, 6, none⟩ = some (.int .u32 a5) ∧ w2.cell? ⟨w.heap.size + 1, 7, none⟩ = some (.int .u32 a6) ∧ w2.cell? ⟨w.heap.size + 1, 8, none⟩ = some (.int .u32 a7) ∧ w2.cell? ⟨w.heap.size + 1, 9, none⟩ = some (.int .i64 0) ∧ w2.cell? ⟨w.heap.size + 1, 10, none⟩ = some (.int .i64 0) ∧ w2.cell? ⟨w.heap.size + 1, 11, none⟩ = some (.int .i64 0) ∧ w2.cell? ⟨w.heap.size + 1, 12, none⟩ = some (.slice none 0 0) := by
  obtain ⟨a0, a1, a2, a3, a4, a5, a6, a7, e1, e2, e3, e4, e5, e6, e7, e8⟩ := hs.at1
  refine ⟨a0, a1, a2, a3, a4, a5, a6, a7, (ho.cell 0 (by omega)).trans (by simp), e1, e2, e3, e4, e5, e6, e7, e8, (ho.cell 9 (by omega)).trans (by simp), (ho.cell 10 (by omega)).trans (by simp), (ho.cell 11 (by omega)).trans (by simp), (ho.cell 12 (by omega)).trans (by simp)⟩
theorem byte_b {w w2 : World} (ho : Only ((w.alloc (.cells #[.int .i64 0, .int .u32 0, .int .u32 0, .int .u32 0, .int .u32 0, .int .u32 0, .int .u32 0, .int .u32 0, .int .u32 0, .int .i64 0, .int .i64 0, .int .i64 0, .slice none 0 0] 156)).alloc (.cells #[.int .i64 0, .int .u32 0, .int .u32 0, .int .u32 0, .int .u32 0, .int .u32 0, .int .u32 0, .int .u32 0, .int .u32 0, .int .i64 0, .int .i64 0, .int .i64 0, .slice none 0 0] 156)) w2 (w.heap.size + 1) 1 8) : w2.cell? ⟨w.heap.size, 0, none⟩ = some (.int .i64 0) ∧ w2.cell? ⟨w.heap.size, 1, none⟩ = some (.int .u32 0) ∧ w2.cell? ⟨w.heap.size, 2, none⟩ = some (.int .u32 0) ∧ w2.cell? ⟨w.heap.size, 3, none⟩ = some (.int .u32 0) ∧ w2.cell? ⟨w.heap.size, 4, none⟩ = some (.int .u32 0) ∧ w2.cell? ⟨w.heap.size, 5, none⟩ = some (.int .u32 0) ∧ w2.cell? ⟨w.heap.size, 6, none⟩ = some (.int .u32 0) ∧ w2.cell? ⟨w.heap.size, 7, none⟩ = some (.int .u32 0) ∧ w2.cell? ⟨w.heap.size, 8, none⟩ = some (.int .u32 0) ∧ w2.cell? ⟨w.heap.size, 9, none⟩ = some (.int .i64 0) ∧ w2.cell? ⟨w.heap.size, 10, none⟩ = some (.int .i64 0) ∧ w2.cell? ⟨w.heap.size, 11, none⟩ = some (.int .i64 0) ∧ w2.cell? ⟨w.heap.size, 12, none⟩ = some (.slice none 0 0) := by
  have e : ∀ i, w2.cell? ⟨w.heap.size, i, none⟩ = ((w.alloc (.cells #[.int .i64 0, .int .u32 0, .int .u32 0, .int .u32 0, .int .u32 0, .int .u32 0, .int .u32 0, .int .u32 0, .int .u32 0, .int .i64 0, .int .i64 0, .int .i64 0, .slice none 0 0] 156)).alloc (.cells #[.int .i64 0, .int .u32 0, .int .u32 0, .int .u32 0, .int .u32 0, .int .u32 0, .int .u32 0, .int .u32 0, .int .u32 0, .int .i64 0, .int .i64 0, .int .i64 0, .slice none 0 0] 156)).cell? ⟨w.heap.size, i, none⟩ := fun i => ho.far ⟨w.heap.size, i, none⟩ (by simp)
  refine ⟨(e 0).trans (by simp), (e 1).trans (by simp), (e 2).trans (by simp), (e 3).trans (by simp), (e 4).trans (by simp), (e 5).trans (by simp), (e 6).trans (by simp), (e 7).trans (by simp), (e 8).trans (by simp), (e 9).trans (by simp), (e 10).trans (by simp), (e 11).trans (by simp), (e 12).trans (by simp)⟩
theorem byte_c {w w2 : World} (ho : Only ((w.alloc (.cells #[.int .i64 0, .int .u32 0, .int .u32 0, .int .u32 0, .int .u32 0, .int .u32 0, .int .u32 0, .int .u32 0, .int .u32 0, .int .i64 0, .int .i64 0, .int .i64 0, .slice none 0 0] 156)).alloc (.cells #[.int .i64 0, .int .u32 0, .int .u32 0, .int .u32 0, .int .u32 0, .int .u32 0, .int .u32 0, .int .u32 0, .int .u32 0, .int .i64 0, .int .i64 0, .int .i64 0, .slice none 0 0] 156)) w2 (w.heap.size + 1) 1 8) : w2.frozen? ⟨w.heap.size, 0, none⟩ = false ∧ w2.frozen? ⟨w.heap.size, 1, none⟩ = false ∧ w2.frozen? ⟨w.heap.size, 2, none⟩ = false ∧ w2.frozen? ⟨w.heap.size, 3, none⟩ = false ∧ w2.frozen? ⟨w.heap.size, 4, none⟩ = false ∧ w2.frozen? ⟨w.heap.size, 5, none⟩ = false ∧ w2.frozen? ⟨w.heap.size, 6, none⟩ = false ∧ w2.frozen? ⟨w.heap.size, 7, none⟩ = false ∧ w2.frozen? ⟨w.heap.size, 8, none⟩ = false ∧ w2.frozen? ⟨w.heap.size, 9, none⟩ = false ∧ w2.frozen? ⟨w.heap.size, 10, none⟩ = false ∧ w2.frozen? ⟨w.heap.size, 11, none⟩ = false ∧ w2.frozen? ⟨w.heap.size, 12, none⟩ = false := by
  have e : ∀ i, w2.frozen? ⟨w.heap.size, i, none⟩ = ((w.alloc (.cells #[.int .i64 0, .int .u32 0, .int .u32 0, .int .u32 0, .int .u32 0, .int .u32 0, .int .u32 0, .int .u32 0, .int .u32 0, .int .i64 0, .int .i64 0, .int .i64 0, .slice none 0 0] 156)).alloc (.cells #[.int .i64 0, .int .u32 0, .int .u32 0, .int .u32 0, .int .u32 0, .int .u32 0, .int .u32 0, .int .u32 0, .int .u32 0, .int .i64 0, .int .i64 0, .int .i64 0, .slice none 0 0] 156)).frozen? ⟨w.heap.size, i, none⟩ := fun i => ho.far_frozen ⟨w.heap.size, i, none⟩ (by simp)
  refine ⟨(e 0).trans (by simp), (e 1).trans (by simp), (e 2).trans (by simp), (e 3).trans (by simp), (e 4).trans (by simp), (e 5).trans (by simp), (e 6).trans (by simp), (e 7).trans (by simp), (e 8).trans (by simp), (e 9).trans (by simp), (e 10).trans (by simp), (e 11).trans (by simp), (e 12).trans (by simp)⟩
theorem byte_d {w w2 : World} (ho : Only ((w.alloc (.cells #[.int .i64 0, .int .u32 0, .int .u32 0, .int .u32 0, .int .u32 0, .int .u32 0, .int .u32 0, .int .u32 0, .int .u32 0, .int .i64 0, .int .i64 0, .int .i64 0, .slice none 0 0] 156)).alloc (.cells #[.int .i64 0, .int .u32 0, .int .u32 0, .int .u32 0, .int .u32 0, .int .u32 0, .int .u32 0, .int .u32 0, .int .u32 0, .int .i64 0, .int .i64 0, .int .i64 0, .slice none 0 0] 156)) w2 (w.heap.size + 1) 1 8) : Below w.heap.size w w2 :=
  (((Below.refl _ _).alloc (Nat.le_refl _) _).alloc (by simp) _).trans (ho.below (by omega))
theorem below_sets {w : World} {B : Nat} (b : Nat) (hb : B ≤ b) : ∀ (vs : List Value) (o : Nat) (wr : World), Below B w wr → Below B w (wr.setCells b o vs)
  | [], _, _, h => h
  | u :: r, o, _, h => below_sets b hb r (o + 1) _ (h.setCell (by exact hb) u)
theorem chain0 (w : World) (g : Nat) (u0 u1 u2 u3 u4 u5 u6 u7 u8 u9 u10 u11 u12 : Value) : (((((((((((((w.setCell ⟨g, 0, none⟩ u0).setCell ⟨g, 1, none⟩ u1).setCell ⟨g, 2, none⟩ u2).setCell ⟨g, 3, none⟩ u3).setCell ⟨g, 4, none⟩ u4).setCell ⟨g, 5, none⟩ u5).setCell ⟨g, 6, none⟩ u6).setCell ⟨g, 7, none⟩ u7).setCell ⟨g, 8, none⟩ u8).setCell ⟨g, 9, none⟩ u9).setCell ⟨g, 10, none⟩ u10).setCell ⟨g, 11, none⟩ u11).setCell ⟨g, 12, none⟩ u12) = w.setCells g 0 [u0, u1, u2, u3, u4, u5, u6, u7, u8, u9, u10, u11, u12] := rfl

set_option maxRecDepth 100000 in
set_option maxHeartbeats 1600000 in
theorem oneByte_any (c : Int) (w : World) (hc0 : 0 ≤ c) (hc1 : c ≤ 255) :
    Calls Tryd.prog 68 #[.int .u8 c] w fun e w' => ∃ a0 a1 a2 a3 a4 a5 a6 a7 : Int, e = .returned (.agg #[.int .i64 0, .int .u32 a0, .int .u32 a1, .int .u32 a2, .int .u32 a3, .int .u32 a4, .int .u32 a5, .int .u32 a6, .int .u32 a7, .int .i64 0, .int .i64 0, .int .i64 0, .slice none 0 0]) ∧ W8 a0 a1 a2 a3 a4 a5 a6 a7 (addS noS c.toNat) ∧ Below w.heap.size w w' := by
  go_enter Tryd.func68, Tryd.ntmps68
  go_wp2_with fail
  refine (add_any (w.heap.size + 1) 1 _ _ hc0 hc1 (by exact set_new w _ _ _ _ _ _ _)).mono ?_
  rintro e w2 ⟨rfl, hs2, ho2⟩
  obtain ⟨a0, a1, a2, a3, a4, a5, a6, a7, e0, e1, e2, e3, e4, e5, e6, e7, e8, e9, e10, e11, e12⟩ := byte_a hs2.1 ho2
  have H8 := hd ((hs2.2 _ (setis_new w _ _ _ _ _ _ _)).w8_1 e1 e2 e3 e4 e5 e6 e7 e8)
  obtain ⟨x0, x1, x2, x3, x4, x5, x6, x7, x8, x9, x10, x11, x12⟩ := byte_b ho2
  obtain ⟨v0, v1, v2, v3, v4, v5, v6, v7, v8, v9, v10, v11, v12⟩ := byte_c ho2
  have Hb := hd (byte_d ho2)
  clear hs2 ho2
  generalize hB : w.heap.size = B at *
  have HB := hd hB
  clear hB
  go_wp2
  refine bodyPost_ret (v := .agg #[.int .i64 0, .int .u32 a0, .int .u32 a1, .int .u32 a2, .int .u32 a3, .int .u32 a4, .int .u32 a5, .int .u32 a6, .int .u32 a7, .int .i64 0, .int .i64 0, .int .i64 0, .slice none 0 0]) (by simp [results, Tryd.results68, go_sem, x0, x1, x2, x3, x4, x5, x6, x7, x8, x9, x10, x11, x12]) rfl ⟨a0, a1, a2, a3, a4, a5, a6, a7, rfl, H8.out, ?_⟩
  rw [chain0, HB.out]
  exact below_sets B (Nat.le_refl _) _ _ _ Hb.out

set_option maxRecDepth 100000 in
set_option maxHeartbeats 1600000 in
theorem anyByte_any (w : World) :
    Calls Tryd.prog 64 #[] w fun e w' => ∃ a0 a1 a2 a3 a4 a5 a6 a7 : Int, e = .returned (.agg #[.int .i64 0, .int .u32 a0, .int .u32 a1, .int .u32 a2, .int .u32 a3, .int .u32 a4, .int .u32 a5, .int .u32 a6, .int .u32 a7, .int .i64 0, .int .i64 0, .int .i64 0, .slice none 0 0]) ∧ W8 a0 a1 a2 a3 a4 a5 a6 a7 (addR noS 0 255) ∧ Below w.heap.size w w' := by
  go_enter Tryd.func64, Tryd.ntmps64
  go_wp2_with fail
  refine (addRange_any (w.heap.size + 1) 1 _ _ _ (by decide) (by decide) (by decide) (by decide) (by exact set_new w _ _ _ _ _ _ _)).mono ?_
  rintro e w2 ⟨rfl, hs2, ho2⟩
  obtain ⟨a0, a1, a2, a3, a4, a5, a6, a7, e0, e1, e2, e3, e4, e5, e6, e7, e8, e9, e10, e11, e12⟩ := byte_a hs2.1 ho2
  have H8 := hd ((hs2.2 _ (setis_new w _ _ _ _ _ _ _)).w8_1 e1 e2 e3 e4 e5 e6 e7 e8)
  obtain ⟨x0, x1, x2, x3, x4, x5, x6, x7, x8, x9, x10, x11, x12⟩ := byte_b ho2
  obtain ⟨v0, v1, v2, v3, v4, v5, v6, v7, v8, v9, v10, v11, v12⟩ := byte_c ho2
  have Hb := hd (byte_d ho2)
  clear hs2 ho2
  generalize hB : w.heap.size = B at *
  have HB := hd hB
  clear hB
  go_wp2
  refine bodyPost_ret (v := .agg #[.int .i64 0, .int .u32 a0, .int .u32 a1, .int .u32 a2, .int .u32 a3, .int .u32 a4, .int .u32 a5, .int .u32 a6, .int .u32 a7, .int .i64 0, .int .i64 0, .int .i64 0, .slice none 0 0]) (by simp [results, Tryd.results64, go_sem, x0, x1, x2, x3, x4, x5, x6, x7, x8, x9, x10, x11, x12]) rfl ⟨a0, a1, a2, a3, a4, a5, a6, a7, rfl, H8.out, ?_⟩
  rw [chain0, HB.out]
  exact below_sets B (Nat.le_refl _) _ _ _ Hb.out
end Go.Proofs.YtldiemjlpnachaaDoor
