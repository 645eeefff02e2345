import Derived.Test.YtjgafakfpcgpjabDoorTab
import Derived.Test.YtjgafakfpcgpjabDoorFaults
namespace Go.Proofs.YtjgafakfpcgpjabDoor
open Go.RowKit

theorem flat3 {α β : Type} (a b c : α → β) : ∀ (l : List α) (i : Nat) (h : i < l.length), (l.flatMap fun x => [a x, b x, c x])[3 * i]? = some (a l[i]) ∧ (l.flatMap fun x => [a x, b x, c x])[3 * i + 1]? = some (b l[i]) ∧ (l.flatMap fun x => [a x, b x, c x])[3 * i + 2]? = some (c l[i]) := by
  intro l
  induction l with
  | nil => intro i h; simp at h
  | cons y l ih =>
    intro i h
    cases i with
    | zero => simp
    | succ i =>
      have := ih i (by simpa using h)
      simpa [List.flatMap_cons, Nat.mul_add] using this

theorem lots_small : lots.all (fun x => decide (x.1.length ≤ 100)) = true := by kernel_rfl

theorem lots_zero : lots.all (fun x => x.2.1 != 0 || x.2.2 == 0) = true := by kernel_rfl

/-- what lies at place i of the table -/
theorem lot_at (i : Nat) (h : i < 63) : ∃ (s : ByteArray) (e p : Nat), lotCells[3 * i]? = some (.string s) ∧ lotCells[3 * i + 1]? = some (.int .i64 e) ∧ lotCells[3 * i + 2]? = some (.int .i64 p) ∧
    s.size ≤ 100 ∧ (e = 0 → p = 0) ∧ ((parseT s.data.toList).1 = e ∧ (parseT s.data.toList).2.1 = p) := by
  have hl : i < lots.length := by rw [lots_len]; exact h
  obtain ⟨h1, h2, h3⟩ := flat3 (fun x : List UInt8 × Nat × Nat => Value.string ⟨x.1.toArray⟩) (fun x => .int .i64 x.2.1) (fun x => .int .i64 x.2.2) lots i hl
  have ho := List.all_eq_true.1 lots_ok lots[i] (List.getElem_mem hl)
  have hs := List.all_eq_true.1 lots_small lots[i] (List.getElem_mem hl)
  have hz := List.all_eq_true.1 lots_zero lots[i] (List.getElem_mem hl)
  simp only [Bool.and_eq_true, beq_iff_eq, decide_eq_true_eq] at ho hs
  refine ⟨⟨lots[i].1.toArray⟩, lots[i].2.1, lots[i].2.2, ?_, ?_, ?_, ?_, ?_, ?_⟩
  · unfold lotCells; rw [List.getElem?_toArray]; exact h1
  · unfold lotCells; rw [List.getElem?_toArray]; exact h2
  · unfold lotCells; rw [List.getElem?_toArray]; exact h3
  · simpa [ByteArray.size] using hs
  · intro h0; simpa [h0] using hz
  · simpa using ho

set_option maxHeartbeats 800000 in
theorem refuses_any (c : Int) (w : World) (hn : NamesIn w) (h0 : -9223372036854775808 ≤ c) (h1 : c ≤ 9223372036854775807) :
    Calls Tryd.prog 3 #[.int .i64 c] w fun e w' => e = .returned (.bool true) ∧ Below w.heap.size w w' := by
  go_enter Tryd.func3, Tryd.ntmps3
  go_wp2_with fail
  refine (faults_any w).mono ?_
  rintro e w0 ⟨rfl, hw1⟩
  have hn1 : NamesIn w0 := hw1 ▸ hn.alloc _
  have Hb1 : Hid (Below w.heap.size w w0) := hd (hw1 ▸ (Below.refl w.heap.size w).alloc (Nat.le_refl _) _)
  have hsz : w0.heap.size = w.heap.size + 1 := by subst hw1; simp
  have hcell : ∀ k v, lotCells[k]? = some v → w0.cell? ⟨w.heap.size, k, none⟩ = some v := by
    intro k v hv
    subst hw1
    simp only [World.cell?, heap_alloc_last]
    exact hv
  clear hw1
  obtain ⟨B, hB⟩ : ∃ B, w.heap.size = B := ⟨_, rfl⟩
  rw [hB] at Hb1 hsz hcell
  simp only [hB]
  go_wp2_with fail
  refine (pick_any c w0 h0 h1).mono ?_
  rintro e w1' ⟨⟨i, hi, rfl⟩, hww⟩
  subst hww
  obtain ⟨s, er, p, e0, e1, e2, hss, hep, Hp⟩ := lot_at i hi
  have c0 := hcell _ _ e0
  have c1 := hcell _ _ e1
  have c2 := hcell _ _ e2
  replace Hp := hd Hp
  clear hcell e0 e1 e2
  have r0 : (0 : Int) ≤ (i : Int) := by omega
  have r1 : (i : Int) < 63 := by omega
  rw [Nat.mul_comm] at c0 c1 c2
  go_wp2_with fail
  have hn2 := hn1.alloc (.cells #[.string s, .int .i64 er, .int .i64 p] 26)
  have Hb2 := hd (Hb1.out.alloc (by omega) (.cells #[.string s, .int .i64 er, .int .i64 p] 26))
  have d0 := heap_alloc_last w1' (.cells #[.string s, .int .i64 er, .int .i64 p] 26)
  have hsz2 : (w1'.alloc (.cells #[.string s, .int .i64 er, .int .i64 p] 26)).heap.size = B + 2 := by simp [hsz]
  rw [hsz] at d0
  clear c0 c1 c2 hn1 Hb1 hsz
  generalize w1'.alloc (.cells #[.string s, .int .i64 er, .int .i64 p] 26) = w2 at *
  refine (compile_any s w2 hn2 (by unfold maxLen; omega)).mono ?_
  unfold CompPost
  rw [Hp.out.1, Hp.out.2]
  rintro e w3 ⟨hb3, hh⟩
  have c0 : w3.cell? ⟨B + 1, 0, none⟩ = some (.string s) := by rw [hb3.cell (by show B + 1 < _; omega)]; simp [World.cell?, d0]
  have c1 : w3.cell? ⟨B + 1, 1, none⟩ = some (.int .i64 er) := by rw [hb3.cell (by show B + 1 < _; omega)]; simp [World.cell?, d0]
  have c2 : w3.cell? ⟨B + 1, 2, none⟩ = some (.int .i64 p) := by rw [hb3.cell (by show B + 1 < _; omega)]; simp [World.cell?, d0]
  have Hb3 : Hid (Below B w w3) := hd (Hb2.out.trans (hb3.mono (by omega)))
  clear hb3 Hp hn2 Hb2 d0 hsz2 hi hss r0 r1
  rcases hh with ⟨he, g, ra, rn, rc, hg, rfl, hg0, hg1⟩ | ⟨he, rfl⟩
  · subst he
    obtain rfl := hep rfl
    go_wp2
    go_ret
    exact ⟨rfl, hB ▸ Hb3.out⟩
  · have hne : ((er : Int) != 0) = true := by simp; omega
    clear hep
    go_wp2
    go_ret
    exact ⟨rfl, hB ▸ Hb3.out⟩
end Go.Proofs.YtjgafakfpcgpjabDoor
