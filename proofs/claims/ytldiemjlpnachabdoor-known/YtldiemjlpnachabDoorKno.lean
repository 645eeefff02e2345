import Derived.Test.YtldiemjlpnachabDoorEv
import Derived.Test.YtldiemjlpnachabDoorStrs
import Derived.Test.YtldiemjlpnachabDoorFr
/- Known patterns, and what they find. -/
namespace Go.Proofs.YtldiemjlpnachabDoor
open Go.RowKit

/-- the patterns, the lines, and what is found (-1: nothing) -/
def kots : List (List UInt8 × List UInt8 × Int × Int) := [([], [97, 98, 99], 0, 0), ([97], [98, 97, 98], 1, 2), ([97, 42], [98, 97, 97, 97], 0, 0), ([97, 97, 42], [98, 97, 97, 97, 98], 1, 4), ([42, 97], [98, 42, 97], 1, 3), ([94, 42, 97], [42, 97], 0, 2), ([92, 40, 42, 97, 92, 41], [42, 97], 0, 2), ([92, 40, 94, 97, 92, 41], [98, 97], -1, 0), ([92, 40, 94, 97, 92, 41, 98], [97, 98], 0, 2), ([97, 92, 40, 98, 36, 92, 41], [120, 97, 98], 1, 3), ([97, 94, 98], [97, 94, 98], 0, 3), ([97, 36, 98], [97, 36, 98], 0, 3), ([97, 36], [97, 98, 97], 2, 3), ([94, 36], [], 0, 0), ([94, 36], [120], -1, 0), ([120, 42, 36], [97, 121, 120, 120], 2, 4), ([91, 93, 97, 93, 42], [97, 93, 97], 0, 3), ([91, 94, 93, 97, 93], [93, 97, 98], 2, 3), ([91, 97, 45, 99, 45, 93, 42], [98, 45, 97, 100], 0, 3), ([91, 91, 58, 100, 105, 103, 105, 116, 58, 93, 120, 93, 91, 91, 58, 97, 108, 112, 104, 97, 58, 93, 93], [49, 50, 120, 121], 1, 3), ([91, 91, 58, 115, 112, 97, 99, 101, 58, 93, 93], [97, 9, 98], 1, 2), ([92, 46, 92, 42, 92, 92], [120, 46, 42, 92], 1, 4), ([97, 92, 123, 50, 44, 51, 92, 125], [97, 97, 97, 97, 98], 0, 3), ([97, 92, 123, 50, 92, 125], [97, 97, 97, 97, 98], 0, 2), ([97, 92, 123, 48, 92, 125], [97, 97], 0, 0), ([97, 92, 123, 51, 44, 92, 125, 98], [97, 97, 98, 97, 97, 97, 97, 98], 3, 8), ([92, 40, 97, 98, 92, 41, 92, 123, 50, 92, 125], [97, 98, 97, 98, 97, 98], 0, 4), ([92, 40, 97, 42, 92, 41, 92, 49], [97, 97, 97, 97, 97], 0, 4), ([92, 40, 97, 42, 92, 41, 98, 92, 49], [97, 97, 98, 97], 1, 4), ([92, 40, 97, 92, 41, 42, 92, 49], [98], -1, 0), ([92, 40, 97, 92, 41, 42, 92, 49], [97, 97, 97], 0, 3), ([92, 40, 92, 40, 97, 92, 41, 98, 92, 41, 42, 92, 50], [97, 98, 97, 98, 97], 0, 5), ([92, 40, 97, 42, 92, 41, 42, 98], [97, 97, 98], 0, 3), ([92, 40, 97, 42, 92, 41, 92, 123, 50, 92, 125, 98], [98], 0, 1), ([92, 40, 46, 92, 41, 92, 40, 46, 92, 41, 92, 50, 92, 49], [120, 97, 98, 98, 97], 1, 5), ([92, 40, 97, 92, 123, 49, 44, 50, 92, 125, 92, 41, 92, 49, 92, 49], [97, 97, 97, 97, 97, 97, 97], 0, 6), ([97, 42, 42, 98], [97, 97, 98], 0, 3), ([97, 42, 92, 123, 50, 92, 125, 98], [97, 97, 98], 0, 3), ([92, 40, 94, 92, 41, 42, 97], [98, 97], 1, 2), ([92, 40, 97, 92, 41, 92, 40, 98, 92, 41, 92, 40, 99, 92, 41, 92, 40, 100, 92, 41, 92, 40, 101, 92, 41, 92, 40, 102, 92, 41, 92, 40, 103, 92, 41, 92, 40, 104, 92, 41, 92, 40, 105, 92, 41, 92, 57, 92, 49], [97, 98, 99, 100, 101, 102, 103, 104, 105, 105, 97], 0, 11), ([36, 97], [98, 36, 97], 1, 3), ([94, 94, 97], [94, 97], 0, 2), ([91, 91, 58, 115, 112, 97, 99, 101, 58, 93, 93], [97, 11, 98], 1, 2), ([94, 92, 40, 97, 42, 92, 41, 97, 42, 92, 49, 98, 36], [97, 97, 97, 98], 0, 4), ([92, 40, 46, 46, 42, 92, 41, 120, 42, 92, 49, 36], [97, 98, 99, 98, 99], 1, 5), ([92, 40, 97, 42, 92, 41, 92, 49, 36], [97, 97, 97, 97, 97, 97, 97, 97, 97, 97, 97, 97, 97, 97, 97, 97, 97, 97, 97, 97, 97, 97, 97, 97], 0, 24), ([92, 40, 97, 42, 92, 41, 92, 49, 36], [97, 97, 97, 97, 97, 97, 97, 97, 97, 97, 97, 97, 97, 97, 97, 97, 97, 97, 97, 97, 97, 97, 97, 97, 97], -1, 0), ([92, 40, 97, 42, 92, 41, 36], [97, 97, 97, 97, 97, 97, 97, 97, 97, 97, 97, 97, 97, 97, 97, 97, 97, 97, 97, 97, 97, 97, 97, 97, 97], 0, 25), ([92, 40, 97, 42, 92, 41, 92, 40, 97, 42, 92, 41, 92, 40, 97, 42, 92, 41, 92, 49, 92, 51, 98], [97, 97, 97, 97, 97, 97, 97, 97, 97, 97, 97, 97, 97, 97, 97, 97, 97, 97, 97, 97, 97, 97, 97, 97], -1, 0)]
theorem kots_len : kots.length = 49 := by rfl
def kotOk (x : List UInt8 × List UInt8 × Int × Int) : Bool := (parseT x.1).1 == 0 && (match findE x.1 x.2.1 0 with
  | some (a, b) => x.2.2.1 == (a : Int) && x.2.2.2 == (b : Int)
  | none => x.2.2.1 == -1)
theorem kots_ok : kots.all kotOk = true := by kernel_rfl
theorem kots_small : kots.all (fun x => decide (x.1.length ≤ 60) && decide (x.2.1.length ≤ 60)) = true := by kernel_rfl
/-- straight operations, run -/
def runKt (P : Program) : List Oper → Act → World → Option (Act × World)
  | [], a, w => some (a, w)
  | o :: rest, a, w =>
    match o.guard with
    | none => match (execOp a.eval o).run P w with
      | .ok (.value v) w' => runKt P rest (a.put o.dst v) w'
      | .ok .skip w' => runKt P rest (a.put o.dst undef) w'
      | _ => none
    | some _ => none

theorem wpList_runKt {P : Program} {ops : Array Oper} {Q : Exit → Act → World → Prop} {a' : Act} {w' : World} :
    ∀ (l : List Oper) (a : Act) (w : World), runKt P l a w = some (a', w') → Q .normal a' w' → wpList P ops Q l a w := by
  intro l
  induction l with
  | nil => intro a w h hq; simp only [runKt, Option.some.injEq, Prod.mk.injEq] at h; obtain ⟨rfl, rfl⟩ := h; exact hq
  | cons o rest ih =>
    intro a w h hq
    unfold runKt at h
    split at h
    · rename_i hg
      refine wpList_plain hg fun K hK => ?_
      unfold Oper.wp
      split at h
      · rename_i v w2 he
        rw [he, Oper.upon_value]
        exact hK _ _ (ih _ _ h hq)
      · rename_i w2 he
        rw [he, Oper.upon_skip]
        exact hK _ _ (ih _ _ h hq)
      · cases h
    · cases h

theorem wpList_runKt_ret {P : Program} {ops : Array Oper} {Q : Exit → Act → World → Prop} {l : List Oper} {a : Act} {w : World} (v : Value) (W : World)
    (h : (runKt P l a w).map (fun p => (p.1.tmps.getD 0 undef, p.1.defers, p.2)) = some (v, [], W))
    (hq : ∀ a', a'.tmps.getD 0 undef = v → a'.defers = [] → Q .normal a' W) : wpList P ops Q l a w := by
  cases hr : runKt P l a w with
  | none => rw [hr] at h; cases h
  | some p =>
    obtain ⟨a', w'⟩ := p
    rw [hr] at h
    simp only [Option.map_some, Option.some.injEq, Prod.mk.injEq] at h
    obtain ⟨h1, h2, rfl⟩ := h
    exact wpList_runKt l a w hr (hq a' h1 h2)


/-- the cells of the table -/
def kotCells : Array Value := (kots.flatMap fun x => [Value.string ⟨x.1.toArray⟩, .string ⟨x.2.1.toArray⟩, .int .i64 x.2.2.1, .int .i64 x.2.2.2]).toArray
set_option maxRecDepth 100000 in
set_option maxHeartbeats 1600000 in
theorem lots_any (w : World) :
    Calls Tryd.prog 18 #[] w fun e w' => e = .returned (.slice (some ⟨w.heap.size, 0, none⟩) 49 49) ∧ w' = w.alloc (.cells kotCells 49) := by
  go_enter Tryd.func18, Tryd.ntmps18
  go_upto_region 1 with fail
  refine wp_region_list ?_
  refine wpList_runKt_ret (.slice (some ⟨w.heap.size, 0, none⟩) 49 49) (w.alloc (.cells kotCells 49)) (by kernel_rfl) fun a' h1 h2 => ?_
  go_wp2
  refine bodyPost_ret (v := .slice (some ⟨w.heap.size, 0, none⟩) 49 49) ?_ h2 ⟨rfl, rfl⟩
  simp only [Array.getD_eq_getD_getElem?] at h1
  simp [results, Tryd.results18, go_sem]
  exact h1
theorem flat4 {α β : Type} (a b c d : α → β) : ∀ (l : List α) (i : Nat) (h : i < l.length), (l.flatMap fun x => [a x, b x, c x, d x])[4 * i]? = some (a l[i]) ∧ (l.flatMap fun x => [a x, b x, c x, d x])[4 * i + 1]? = some (b l[i]) ∧ (l.flatMap fun x => [a x, b x, c x, d x])[4 * i + 2]? = some (c l[i]) ∧ (l.flatMap fun x => [a x, b x, c x, d x])[4 * i + 3]? = some (d l[i]) := by
  intro l
  induction l with
  | nil => intro i h; simp at h
  | cons y l ih =>
    intro i h
    cases i with
    | zero => simp
    | succ i =>
      have := ih i (by simpa using h)
      simpa [List.flatMap_cons, Nat.mul_add] using this
/-- what lies at place i of the table -/
theorem kot_at (i : Nat) (h : i < 49) : ∃ (p s : ByteArray) (a b : Int), kotCells[4 * i]? = some (.string p) ∧ kotCells[4 * i + 1]? = some (.string s) ∧ kotCells[4 * i + 2]? = some (.int .i64 a) ∧ kotCells[4 * i + 3]? = some (.int .i64 b) ∧ p.size ≤ 60 ∧ s.size ≤ 60 ∧ kotOk (p.data.toList, s.data.toList, a, b) = true := by
  have hl : i < kots.length := by rw [kots_len]; exact h
  obtain ⟨h1, h2, h3, h4⟩ := flat4 (fun x : List UInt8 × List UInt8 × Int × Int => Value.string ⟨x.1.toArray⟩) (fun x => .string ⟨x.2.1.toArray⟩) (fun x => .int .i64 x.2.2.1) (fun x => .int .i64 x.2.2.2) kots i hl
  have ho := List.all_eq_true.1 kots_ok kots[i] (List.getElem_mem hl)
  have hs := List.all_eq_true.1 kots_small kots[i] (List.getElem_mem hl)
  simp only [Bool.and_eq_true, decide_eq_true_eq] at hs
  refine ⟨⟨kots[i].1.toArray⟩, ⟨kots[i].2.1.toArray⟩, kots[i].2.2.1, kots[i].2.2.2, ?_, ?_, ?_, ?_, ?_, ?_, ?_⟩
  · unfold kotCells; rw [List.getElem?_toArray]; exact h1
  · unfold kotCells; rw [List.getElem?_toArray]; exact h2
  · unfold kotCells; rw [List.getElem?_toArray]; exact h3
  · unfold kotCells; rw [List.getElem?_toArray]; exact h4
  · simpa [ByteArray.size] using hs.1
  · simpa [ByteArray.size] using hs.2
  · simpa using ho
theorem kot_res {p s : List UInt8} {i j : Int} (h : kotOk (p, s, i, j) = true) : (parseT p).1 = 0 ∧ ∀ fd a b, FindRes s.length (Fm p s) 0 fd a b → if i < 0 then fd = false ∧ a = 0 ∧ b = 0 else fd = true ∧ (a : Int) = i ∧ (b : Int) = j := by
  unfold kotOk at h
  rw [Bool.and_eq_true] at h
  obtain ⟨h1, h2⟩ := h
  have hok : (parseT p).1 = 0 := by simpa using h1
  refine ⟨hok, fun fd a b hr => ?_⟩
  have hb := hr.1 ⟨Int.le_refl _, by omega⟩
  have hf := findE_ok (s := s) hok (fr := 0) (Nat.zero_le _)
  simp only at h2
  cases he : findE p s 0 with
  | none =>
    rw [he] at h2 hf
    simp only [beq_iff_eq] at h2
    simp only at hf
    rw [if_pos (by omega)]
    exact hb.uniq hf
  | some x =>
    obtain ⟨x, y⟩ := x
    rw [he] at h2 hf
    simp only [Bool.and_eq_true, beq_iff_eq] at h2
    simp only at hf
    rw [if_neg (by omega)]
    obtain ⟨e1, e2, e3⟩ := hb.uniq hf
    exact ⟨e1, by omega, by omega⟩
set_option maxHeartbeats 800000 in
theorem known_any (c : Int) (w : World) (hn : NamesIn w) (h0 : -9223372036854775808 ≤ c) (h1 : c ≤ 9223372036854775807) :
    Calls Tryd.prog 6 #[.int .i64 c] w fun e w' => e = .returned (.bool true) ∧ Below w.heap.size w w' := by
  go_enter Tryd.func6, Tryd.ntmps6
  go_wp2_with fail
  refine (lots_any w).mono ?_
  rintro e w0 ⟨rfl, hw1⟩
  have hn1 : NamesIn w0 := hw1 ▸ hn.alloc _
  have Hb1 : Hid (Below w.heap.size w w0) := hd (hw1 ▸ (Below.refl w.heap.size w).alloc (Nat.le_refl _) _)
  have hsz : w0.heap.size = w.heap.size + 1 := by subst hw1; simp
  have hcell : ∀ k v, kotCells[k]? = some v → w0.cell? ⟨w.heap.size, k, none⟩ = some v := by
    intro k v hv
    subst hw1
    simp only [World.cell?, heap_alloc_last]
    exact hv
  clear hw1
  obtain ⟨B, hB⟩ : ∃ B, w.heap.size = B := ⟨_, rfl⟩
  rw [hB] at Hb1 hsz hcell
  simp only [hB]
  go_wp2_with fail
  refine (pick_any c 49 w0 h0 h1 (by omega) (by omega)).mono ?_
  rintro e w1' ⟨⟨i, rfl, hi⟩, hww⟩
  subst hww
  obtain ⟨p, s, a, b, e0, e1, e2, e3, hp, hs, Hk⟩ := kot_at i (by omega)
  have c0 := hcell _ _ e0
  have c1 := hcell _ _ e1
  have c2 := hcell _ _ e2
  have c3 := hcell _ _ e3
  replace Hk := hd Hk
  clear hcell e0 e1 e2 e3
  have r0 : (0 : Int) ≤ (i : Int) := by omega
  have r1 : (i : Int) < 49 := by omega
  rw [Nat.mul_comm] at c0 c1 c2 c3
  go_wp2_with fail
  have hn2 := hn1.alloc (.cells #[.string p, .string s, .int .i64 a, .int .i64 b] 49)
  have Hb2 := hd (Hb1.out.alloc (by omega) (.cells #[.string p, .string s, .int .i64 a, .int .i64 b] 49))
  generalize w1'.alloc (.cells #[.string p, .string s, .int .i64 a, .int .i64 b] 49) = w2 at *
  have hr := kot_res Hk.out
  have hpl := len_data p
  have hsl := len_data s
  refine (found_all p s _ _ 0 a b w2 rfl rfl hn2 (by rw [hpl]; unfold maxLen; omega) (by rw [hsl]; omega) hr.1 hr.2).mono ?_
  rintro e w3 ⟨rfl, hb3⟩
  have Hb3 : Hid (Below B w w3) := hd (Hb2.out.trans (hb3.mono (by rw [← hB]; exact Hb2.out.size)))
  clear hb3 c0 c1 c2 c3 hn1 hn2 Hb1 Hb2 hr
  go_wp2
  go_ret
  exact ⟨rfl, hB ▸ Hb3.out⟩
end Go.Proofs.YtldiemjlpnachabDoor
