import Derived.Test.YtldiemjlpnachabDoorTwin
import Derived.Test.YtldiemjlpnachabDoorComp
import Derived.Test.YtldiemjlpnachabDoorStrs
import Derived.Test.YtldiemjlpnachabDoorFr
namespace Go.Proofs.YtldiemjlpnachabDoor

/-- the patterns, why each is none (0: it is one), and where -/
def lots : List (List UInt8 × Nat × Nat) := [([97, 97, 97, 97, 97, 97, 97, 97, 97, 97, 97, 97, 97, 97, 97, 97, 97, 97, 97, 97, 97, 97, 97, 97, 97, 97, 97, 97, 97, 97, 97, 97, 97, 97, 97, 97, 97, 97, 97, 97, 97, 97, 97, 97, 97, 97, 97, 97, 97, 97, 97, 97, 97, 97, 97, 97, 97, 97, 97, 97], 0, 0), ([97, 97, 97, 97, 97, 97, 97, 97, 97, 97, 97, 97, 97, 97, 97, 97, 97, 97, 97, 97, 97, 97, 97, 97, 97, 97, 97, 97, 97, 97, 97, 97, 97, 97, 97, 97, 97, 97, 97, 97, 97, 97, 97, 97, 97, 97, 97, 97, 97, 97, 97, 97, 97, 97, 97, 97, 97, 97, 97, 97, 97], 1, 0), ([97, 97, 97, 97, 97, 97, 97, 97, 97, 97, 97, 97, 97, 97, 97, 97, 97, 97, 97, 97, 97, 97, 97, 97, 97, 97, 97, 97, 97, 97, 97, 97, 97, 97, 97, 97, 97, 97, 97, 97, 97, 97, 97, 97, 97, 97, 97, 97, 97, 97, 97, 97, 97, 97, 97, 97, 97, 97, 97, 97, 10, 92], 1, 0), ([97, 10, 98, 92], 2, 1), ([97, 92], 3, 1), ([92, 100], 3, 0), ([97, 92, 48], 3, 1), ([92, 45], 3, 0), ([92, 125], 3, 0), ([97, 91, 98], 4, 1), ([91, 93], 4, 0), ([91, 94, 93], 4, 0), ([120, 91, 97, 45], 4, 1), ([91, 92, 93], 0, 0), ([91, 91, 58, 100, 105, 103, 105, 116, 58, 93], 4, 0), ([91, 91, 58, 100, 105, 103, 105, 116, 115, 58, 93, 93], 5, 1), ([91, 97, 91, 46, 97, 46, 93, 93], 5, 2), ([91, 91, 61, 97, 61, 93, 93], 5, 1), ([91, 91, 58, 100, 105, 103, 105, 116, 93], 5, 1), ([91, 98, 45, 97, 93], 6, 1), ([91, 120, 98, 45, 97, 122], 6, 2), ([91, 97, 45, 91, 58, 100, 105, 103, 105, 116, 58, 93, 93], 6, 1), ([91, 91, 58, 100, 105, 103, 105, 116, 58, 93, 45, 122, 93], 6, 10), ([91, 91, 58, 100, 105, 103, 105, 116, 58, 93, 45, 93], 0, 0), ([91, 37, 45, 45, 93], 0, 0), ([91, 45, 45, 37, 93], 6, 1), ([91, 91, 97, 93], 0, 0), ([97, 92, 123], 7, 1), ([97, 92, 123, 50], 7, 1), ([97, 92, 123, 50, 44, 49, 92, 125], 7, 1), ([97, 92, 123, 44, 50, 92, 125], 7, 1), ([97, 92, 123, 50, 49, 92, 125], 7, 1), ([97, 92, 123, 50, 48, 92, 125], 0, 0), ([97, 92, 123, 48, 48, 50, 48, 92, 125], 0, 0), ([92, 123, 50, 92, 125], 7, 0), ([94, 92, 123, 50, 92, 125], 7, 1), ([92, 40, 92, 123, 50, 92, 125, 92, 41], 7, 2), ([97, 92, 123, 50, 32, 92, 125], 7, 1), ([97, 92, 123, 50, 125], 7, 1), ([42, 92, 123, 50, 92, 125], 0, 0), ([97, 92, 41], 8, 1), ([92, 40, 97, 92, 41, 92, 41, 98], 8, 5), ([92, 40, 97], 11, 0), ([92, 40, 97, 92, 40, 98], 11, 3), ([92, 40, 97, 92, 40, 98, 92, 41], 11, 0), ([92, 40, 92, 41, 92, 40, 92, 41, 92, 40, 92, 41, 92, 40, 92, 41, 92, 40, 92, 41, 92, 40, 92, 41, 92, 40, 92, 41, 92, 40, 92, 41, 92, 40, 92, 41], 0, 0), ([92, 40, 92, 41, 92, 40, 92, 41, 92, 40, 92, 41, 92, 40, 92, 41, 92, 40, 92, 41, 92, 40, 92, 41, 92, 40, 92, 41, 92, 40, 92, 41, 92, 40, 92, 41, 92, 40], 9, 36), ([92, 49], 10, 0), ([92, 40, 97, 92, 49, 92, 41], 10, 3), ([92, 40, 97, 92, 41, 92, 50], 10, 5), ([92, 40, 97, 92, 41, 92, 40, 98, 92, 41, 92, 40, 99, 92, 41, 92, 49, 92, 51, 92, 49, 92, 51], 0, 0), ([92, 40, 97, 92, 41, 92, 40, 98, 92, 41, 92, 40, 99, 92, 41, 92, 49, 92, 51, 92, 49, 92, 50], 10, 21), ([92, 40, 97, 92, 41, 92, 49], 0, 0), ([92, 40, 92, 49], 10, 2), ([92, 40, 97, 92, 123, 50, 48, 92, 125, 92, 41, 92, 123, 56, 92, 125], 0, 0), ([92, 40, 97, 92, 123, 50, 48, 92, 125, 92, 41, 92, 123, 57, 92, 125], 12, 0), ([92, 40, 92, 40, 97, 92, 123, 50, 48, 92, 125, 92, 41, 92, 123, 50, 48, 92, 125, 92, 41, 92, 123, 50, 48, 92, 125], 12, 0), ([92, 40, 97, 92, 123, 50, 48, 92, 125, 92, 41, 92, 123, 55, 44, 92, 125], 0, 0), ([92, 40, 97, 92, 123, 50, 48, 92, 125, 92, 41, 92, 123, 56, 44, 92, 125], 12, 0), ([92, 40, 97, 92, 123, 50, 48, 92, 125, 92, 41, 92, 123, 56, 92, 125, 97, 97, 97, 97, 97, 97, 97, 97, 97, 97, 97, 97, 97, 97], 0, 0), ([92, 40, 97, 92, 123, 50, 48, 92, 125, 92, 41, 92, 123, 56, 92, 125, 97, 97, 97, 97, 97, 97, 97, 97, 97, 97, 97, 97, 97, 97, 97], 12, 0), ([91, 91, 58, 100, 105, 103, 105, 116, 58, 93, 45, 97, 93], 6, 10), ([92, 40, 92, 41, 92, 40, 92, 41, 92, 40, 92, 41, 92, 40, 92, 41, 92, 40, 92, 41, 92, 40, 92, 41, 92, 40, 92, 41, 92, 40, 92, 41, 92, 40, 92, 40], 9, 34)]
end Go.Proofs.YtldiemjlpnachabDoor
namespace Go.Proofs.YtldiemjlpnachabDoor

theorem lots_ok : lots.all (fun x => (parseT x.1).1 == x.2.1 && (parseT x.1).2.1 == x.2.2) = true := by kernel_rfl
theorem lots_len : lots.length = 63 := by rfl
end Go.Proofs.YtldiemjlpnachabDoor
namespace Go.Proofs.YtldiemjlpnachabDoor
open Go.RowKit

def aN (k : Nat) : ByteArray := ⟨Array.replicate k 97⟩
theorem aN_size (k : Nat) : (aN k).size = k := by simp [aN, ByteArray.size]
theorem aN_succ (k : Nat) : aN k ++ (⟨#[97]⟩ : ByteArray) = aN (k + 1) := by
  apply ByteArray.ext
  rw [ByteArray.data_append]
  simp [aN, Array.replicate_succ]

set_option maxHeartbeats 800000 in
theorem pick_any (c : Int) (w : World) (h0 : -9223372036854775808 ≤ c) (h1 : c ≤ 9223372036854775807) :
    Calls Tryd.prog 8 #[.int .i64 c, .int .i64 63] w fun e w' => (∃ i : Nat, i < 63 ∧ e = .returned (.int .i64 i)) ∧ w' = w := by
  by_cases hc : c < 0
  · go_enter Tryd.func8, Tryd.ntmps8
    go_wp2
    go_ret
    refine ⟨⟨((-(c + 1)) % 63).toNat, by omega, ?_⟩, rfl⟩
    have e : -((c + 1).tmod 63) = (((-(c + 1)) % 63).toNat : Int) := by
      rw [← Int.neg_tmod, Int.tmod_eq_emod_of_nonneg (by omega)]
      omega
    show Ending.returned (.int .i64 (-((c + 1).tmod 63))) = _
    rw [e]
  · go_enter Tryd.func8, Tryd.ntmps8
    go_wp2
    go_ret
    refine ⟨⟨(c % 63).toNat, by omega, ?_⟩, rfl⟩
    show Ending.returned (.int .i64 (c % 63)) = _
    rw [show c % 63 = ((c % 63).toNat : Int) by omega]
    simp

/-- straight operations, run -/
def runSt (P : Program) : List Oper → Act → World → Option (Act × World)
  | [], a, w => some (a, w)
  | o :: rest, a, w =>
    match o.guard with
    | none => match (execOp a.eval o).run P w with
      | .ok (.value v) w' => runSt P rest (a.put o.dst v) w'
      | .ok .skip w' => runSt P rest (a.put o.dst undef) w'
      | _ => none
    | some _ => none

theorem wpList_runSt {P : Program} {ops : Array Oper} {Q : Exit → Act → World → Prop} {a' : Act} {w' : World} :
    ∀ (l : List Oper) (a : Act) (w : World), runSt P l a w = some (a', w') → Q .normal a' w' → wpList P ops Q l a w := by
  intro l
  induction l with
  | nil => intro a w h hq; simp only [runSt, Option.some.injEq, Prod.mk.injEq] at h; obtain ⟨rfl, rfl⟩ := h; exact hq
  | cons o rest ih =>
    intro a w h hq
    unfold runSt at h
    split at h
    · rename_i hg
      refine wpList_plain hg fun K hK => ?_
      unfold Oper.wp
      split at h
      · rename_i v w2 he
        rw [he, Oper.upon_value]
        exact hK _ _ (ih _ _ h hq)
      · rename_i w2 he
        rw [he, Oper.upon_skip]
        exact hK _ _ (ih _ _ h hq)
      · cases h
    · cases h

theorem wpList_runSt_ret {P : Program} {ops : Array Oper} {Q : Exit → Act → World → Prop} {l : List Oper} {a : Act} {w : World} (v : Value) (W : World)
    (h : (runSt P l a w).map (fun p => (p.1.tmps.getD 0 undef, p.1.defers, p.2)) = some (v, [], W))
    (hq : ∀ a', a'.tmps.getD 0 undef = v → a'.defers = [] → Q .normal a' W) : wpList P ops Q l a w := by
  cases hr : runSt P l a w with
  | none => rw [hr] at h; cases h
  | some p =>
    obtain ⟨a', w'⟩ := p
    rw [hr] at h
    simp only [Option.map_some, Option.some.injEq, Prod.mk.injEq] at h
    obtain ⟨h1, h2, rfl⟩ := h
    exact wpList_runSt l a w hr (hq a' h1 h2)

def aLen (v : Value) : Nat := match v with | .string t => 60 - t.size | _ => 0
theorem aLen_aN (k : Nat) : aLen (.string (aN k)) = 60 - k := by simp [aLen, aN_size]

/-- the cells of the table -/
def lotCells : Array Value := (lots.flatMap fun x => [Value.string ⟨x.1.toArray⟩, .int .i64 x.2.1, .int .i64 x.2.2]).toArray

set_option maxRecDepth 100000 in
set_option maxHeartbeats 1600000 in
theorem faults_any (w : World) :
    Calls Tryd.prog 19 #[] w fun e w' => e = .returned (.slice (some ⟨w.heap.size, 0, none⟩) 63 63) ∧ w' = w.alloc (.cells lotCells 54) := by
  go_enter Tryd.func19, Tryd.ntmps19
  go_wp2
  go_loop [1] (fun s => ∃ k : Nat, k ≤ 60 ∧ s = .string (aN k)) (fun s => aLen s)
  case atStart => exact ⟨0, by omega, rfl⟩
  case round =>
    obtain ⟨k, hk, rfl⟩ := hrel
    have hsz := aN_size k
    by_cases hlt : k < 60
    · have Hsuc := hd (aN_succ k)
      have HL := hd (aLen_aN k)
      have HL2 := hd (aLen_aN (k + 1))
      generalize aN k = A at *
      go_wp2_with fail
      go_round
      case rel => exact ⟨k + 1, by omega, by rw [← Hsuc.out]⟩
      case measure =>
        show aLen (.string (A ++ _)) < aLen (.string A)
        rw [Hsuc.out, HL.out, HL2.out]; omega
    · obtain rfl : k = 60 := by omega
      go_upto_region 4 with fail
      refine wp_region_list ?_
      refine wpList_runSt_ret (.slice (some ⟨w.heap.size, 0, none⟩) 63 63) (w.alloc (.cells lotCells 54)) (by kernel_rfl) fun a' h1 h2 => ?_
      go_wp2
      refine bodyPost_ret (v := .slice (some ⟨w.heap.size, 0, none⟩) 63 63) ?_ h2 ⟨rfl, rfl⟩
      simp only [Array.getD_eq_getD_getElem?] at h1
      simp [results, Tryd.results19, go_sem]
      exact h1
end Go.Proofs.YtldiemjlpnachabDoor
namespace Go.Proofs.YtldiemjlpnachabDoor
open Go.RowKit

theorem flat3 {α β : Type} (a b c : α → β) : ∀ (l : List α) (i : Nat) (h : i < l.length), (l.flatMap fun x => [a x, b x, c x])[3 * i]? = some (a l[i]) ∧ (l.flatMap fun x => [a x, b x, c x])[3 * i + 1]? = some (b l[i]) ∧ (l.flatMap fun x => [a x, b x, c x])[3 * i + 2]? = some (c l[i]) := by
  intro l
  induction l with
  | nil => intro i h; simp at h
  | cons y l ih =>
    intro i h
    cases i with
    | zero => simp
    | succ i =>
      have := ih i (by simpa using h)
      simpa [List.flatMap_cons, Nat.mul_add] using this

theorem lots_small : lots.all (fun x => decide (x.1.length ≤ 100)) = true := by kernel_rfl

theorem lots_zero : lots.all (fun x => x.2.1 != 0 || x.2.2 == 0) = true := by kernel_rfl

/-- what lies at place i of the table -/
theorem lot_at (i : Nat) (h : i < 63) : ∃ (s : ByteArray) (e p : Nat), lotCells[3 * i]? = some (.string s) ∧ lotCells[3 * i + 1]? = some (.int .i64 e) ∧ lotCells[3 * i + 2]? = some (.int .i64 p) ∧
    s.size ≤ 100 ∧ (e = 0 → p = 0) ∧ ((parseT s.data.toList).1 = e ∧ (parseT s.data.toList).2.1 = p) := by
  have hl : i < lots.length := by rw [lots_len]; exact h
  obtain ⟨h1, h2, h3⟩ := flat3 (fun x : List UInt8 × Nat × Nat => Value.string ⟨x.1.toArray⟩) (fun x => .int .i64 x.2.1) (fun x => .int .i64 x.2.2) lots i hl
  have ho := List.all_eq_true.1 lots_ok lots[i] (List.getElem_mem hl)
  have hs := List.all_eq_true.1 lots_small lots[i] (List.getElem_mem hl)
  have hz := List.all_eq_true.1 lots_zero lots[i] (List.getElem_mem hl)
  simp only [Bool.and_eq_true, beq_iff_eq, decide_eq_true_eq] at ho hs
  refine ⟨⟨lots[i].1.toArray⟩, lots[i].2.1, lots[i].2.2, ?_, ?_, ?_, ?_, ?_, ?_⟩
  · unfold lotCells; rw [List.getElem?_toArray]; exact h1
  · unfold lotCells; rw [List.getElem?_toArray]; exact h2
  · unfold lotCells; rw [List.getElem?_toArray]; exact h3
  · simpa [ByteArray.size] using hs
  · intro h0; simpa [h0] using hz
  · simpa using ho

set_option maxHeartbeats 800000 in
theorem refuses_any (c : Int) (w : World) (hn : NamesIn w) (h0 : -9223372036854775808 ≤ c) (h1 : c ≤ 9223372036854775807) :
    Calls Tryd.prog 7 #[.int .i64 c] w fun e w' => e = .returned (.bool true) ∧ Below w.heap.size w w' := by
  go_enter Tryd.func7, Tryd.ntmps7
  go_wp2_with fail
  refine (faults_any w).mono ?_
  rintro e w0 ⟨rfl, hw1⟩
  have hn1 : NamesIn w0 := hw1 ▸ hn.alloc _
  have Hb1 : Hid (Below w.heap.size w w0) := hd (hw1 ▸ (Below.refl w.heap.size w).alloc (Nat.le_refl _) _)
  have hsz : w0.heap.size = w.heap.size + 1 := by subst hw1; simp
  have hcell : ∀ k v, lotCells[k]? = some v → w0.cell? ⟨w.heap.size, k, none⟩ = some v := by
    intro k v hv
    subst hw1
    simp only [World.cell?, heap_alloc_last]
    exact hv
  clear hw1
  obtain ⟨B, hB⟩ : ∃ B, w.heap.size = B := ⟨_, rfl⟩
  rw [hB] at Hb1 hsz hcell
  simp only [hB]
  go_wp2_with fail
  refine (pick_any c w0 h0 h1).mono ?_
  rintro e w1' ⟨⟨i, hi, rfl⟩, hww⟩
  subst hww
  obtain ⟨s, er, p, e0, e1, e2, hss, hep, Hp⟩ := lot_at i hi
  have c0 := hcell _ _ e0
  have c1 := hcell _ _ e1
  have c2 := hcell _ _ e2
  replace Hp := hd Hp
  clear hcell e0 e1 e2
  have r0 : (0 : Int) ≤ (i : Int) := by omega
  have r1 : (i : Int) < 63 := by omega
  rw [Nat.mul_comm] at c0 c1 c2
  go_wp2_with fail
  have hn2 := hn1.alloc (.cells #[.string s, .int .i64 er, .int .i64 p] 54)
  have Hb2 := hd (Hb1.out.alloc (by omega) (.cells #[.string s, .int .i64 er, .int .i64 p] 54))
  have d0 := heap_alloc_last w1' (.cells #[.string s, .int .i64 er, .int .i64 p] 54)
  have hsz2 : (w1'.alloc (.cells #[.string s, .int .i64 er, .int .i64 p] 54)).heap.size = B + 2 := by simp [hsz]
  rw [hsz] at d0
  clear c0 c1 c2 hn1 Hb1 hsz
  generalize w1'.alloc (.cells #[.string s, .int .i64 er, .int .i64 p] 54) = w2 at *
  refine (compile_any s w2 hn2 (by unfold maxLen; omega)).mono ?_
  unfold CompPost
  rw [Hp.out.1, Hp.out.2]
  rintro e w3 ⟨hb3, hh⟩
  have c0 : w3.cell? ⟨B + 1, 0, none⟩ = some (.string s) := by rw [hb3.cell (by show B + 1 < _; omega)]; simp [World.cell?, d0]
  have c1 : w3.cell? ⟨B + 1, 1, none⟩ = some (.int .i64 er) := by rw [hb3.cell (by show B + 1 < _; omega)]; simp [World.cell?, d0]
  have c2 : w3.cell? ⟨B + 1, 2, none⟩ = some (.int .i64 p) := by rw [hb3.cell (by show B + 1 < _; omega)]; simp [World.cell?, d0]
  have Hb3 : Hid (Below B w w3) := hd (Hb2.out.trans (hb3.mono (by omega)))
  clear hb3 Hp hn2 Hb2 d0 hsz2 hi hss r0 r1
  rcases hh with ⟨he, g, hg, rfl, _⟩ | ⟨he, rfl⟩
  · subst he
    obtain rfl := hep rfl
    go_wp2
    go_ret
    exact ⟨rfl, hB ▸ Hb3.out⟩
  · have hne : ((er : Int) != 0) = true := by simp; omega
    clear hep
    go_wp2
    go_ret
    exact ⟨rfl, hB ▸ Hb3.out⟩
end Go.Proofs.YtldiemjlpnachabDoor
