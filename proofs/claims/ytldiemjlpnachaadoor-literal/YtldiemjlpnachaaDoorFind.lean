import Derived.Test.YtldiemjlpnachaaDoorPass
import Derived.Laws.MakeOwn
namespace Go.Proofs.YtldiemjlpnachaaDoor
open Go.RowKit

/-- what Find tells -/
def FindPost (w w' : World) (l : List UInt8) (M : Nat → Nat → Prop) (from_ : Int) (e : Ending) : Prop :=
  Below w.heap.size w w' ∧ ∃ (fd : Bool) (a b : Nat), e = .returned (.tuple #[.int .i64 a, .int .i64 b, .bool fd]) ∧ ((0 ≤ from_ ∧ from_ ≤ l.length) → Best l.length M from_.toNat fd a b) ∧ (¬ (0 ≤ from_ ∧ from_ ≤ l.length) → fd = false ∧ a = 0 ∧ b = 0)

theorem info_way : (Tryd.prog.info? 150).map (fun i => (i.zero, i.size, i.bytes)) = some (some (.agg #[.int .i64 0, .int .i64 0]), 2, 16) := by kernel_rfl
def mkI (n : Nat) : Array Value := madeCells (Value.int .i64 0).cells (n * 1)
def mkW (n : Nat) : Array Value := madeCells (Value.agg #[.int .i64 0, .int .i64 0]).cells (n * 2)
theorem mkI_get {n i : Nat} (h : i < n) : (mkI n)[i]? = some (.int .i64 0) := by
  unfold mkI madeCells
  rw [Array.getElem?_map, Array.getElem?_range]
  simp [h, Value.cells, Nat.mod_one]
theorem mkW_get {n i : Nat} (h : i < n * 2) : (mkW n)[i]? = some (.int .i64 0) := by
  unfold mkW madeCells
  rw [Array.getElem?_map, Array.getElem?_range]
  have hc : (Value.agg #[.int .i64 0, .int .i64 0]).cells = #[Value.int .i64 0, .int .i64 0] := by rfl
  rw [hc, if_pos h]
  rcases Nat.mod_two_eq_zero_or_one i with e | e <;> simp [e]
theorem mk_ints (n : Nat) (hn : n ≤ 1000) (w : World) : (Instr.makeSlice 46 (.int .i64 n) (.int .i64 n)).run Tryd.prog w = .ok (.slice (some ⟨w.heap.size, 0, none⟩) n n) (w.alloc (.cells (mkI n) 3)) := by
  obtain ⟨i0, hi0, hz0, hz1, hz2⟩ := info_parts info_int
  have := run_make (P := Tryd.prog) w 46 3 i0 _ Tryd.underlying46 hi0 hz0 .i64 .i64 n n (by omega) (Int.le_refl _) (by rw [hz2]; omega) (by omega)
  rw [hz1, Int.toNat_natCast] at this
  exact this
theorem mk_ways (n : Nat) (hn : n ≤ 1000) (w : World) : (Instr.makeSlice 91 (.int .i64 n) (.int .i64 n)).run Tryd.prog w = .ok (.slice (some ⟨w.heap.size, 0, none⟩) n n) (w.alloc (.cells (mkW n) 150)) := by
  obtain ⟨i0, hi0, hz0, hz1, hz2⟩ := info_parts info_way
  have := run_make (P := Tryd.prog) w 91 150 i0 _ Tryd.underlying91 hi0 hz0 .i64 .i64 n n (by omega) (Int.le_refl _) (by rw [hz2]; omega) (by omega)
  rw [hz1, Int.toNat_natCast] at this
  exact this

set_option maxHeartbeats 3200000 in
set_option maxRecDepth 100000 in
theorem find_out (P o : Nat) (w : World) (s : ByteArray) (fr : Int) (ra : Option Addr) (rn rc : Nat) (p0 : w.cell? ⟨P, o, none⟩ = some (.slice ra rn rc)) (p2 : w.cell? ⟨P, o + 2, none⟩ = some (.int .i64 0)) (hf : ¬ (0 ≤ fr ∧ fr ≤ s.size)) :
    Calls Tryd.prog 30 #[.pointer (some ⟨P, o, none⟩), .string s, .int .i64 fr] w fun e w' => e = .returned (.tuple #[.int .i64 0, .int .i64 0, .bool false]) ∧ Below w.heap.size w w' := by
  by_cases h1 : fr < 0
  · go_enter Tryd.func30, Tryd.ntmps30
    go_wp2
    go_ret3
    exact ⟨rfl, Below.refl _ _⟩
  · have h2 : (s.size : Int) < fr := by omega
    go_enter Tryd.func30, Tryd.ntmps30
    go_wp2
    go_ret3
    exact ⟨rfl, Below.refl _ _⟩

theorem below_drN {N n : Nat} {w w' : World} (h : Below N w w') : Below N w (w'.drewN n) := ⟨h.os, h.tape, h.output, h.size, h.block⟩
/-- six new blocks -/
theorem six_new (w : World) (o0 o1 o2 o3 o4 o5 : Obj) : let W := (((((w.alloc o0).alloc o1).alloc o2).alloc o3).alloc o4).alloc o5
    W.heap[w.heap.size]? = some o0 ∧ W.heap[w.heap.size + 1]? = some o1 ∧ W.heap[w.heap.size + 2]? = some o2 ∧ W.heap[w.heap.size + 3]? = some o3 ∧ W.heap[w.heap.size + 4]? = some o4 ∧ W.heap[w.heap.size + 5]? = some o5 ∧ Below w.heap.size w W ∧ W.heap.size = w.heap.size + 6 := by
  have hh : ∀ (U : World) (o : Obj) (k : Nat), k < U.heap.size → (U.alloc o).heap[k]? = U.heap[k]? := fun U o k hk => Below.heap_alloc _ _ _ hk
  refine ⟨?_, ?_, ?_, ?_, ?_, ?_, ?_, by simp⟩
  · rw [hh _ _ _ (by simp; omega), hh _ _ _ (by simp; omega), hh _ _ _ (by simp; omega), hh _ _ _ (by simp; omega), hh _ _ _ (by simp)]; exact heap_alloc_new _ _
  · rw [hh _ _ _ (by simp), hh _ _ _ (by simp), hh _ _ _ (by simp), hh _ _ _ (by simp)]
    have := heap_alloc_new (w.alloc o0) o1
    simpa using this
  · rw [hh _ _ _ (by simp), hh _ _ _ (by simp), hh _ _ _ (by simp)]
    have := heap_alloc_new ((w.alloc o0).alloc o1) o2
    simpa using this
  · rw [hh _ _ _ (by simp), hh _ _ _ (by simp)]
    have := heap_alloc_new (((w.alloc o0).alloc o1).alloc o2) o3
    simpa using this
  · rw [hh _ _ _ (by simp)]
    have := heap_alloc_new ((((w.alloc o0).alloc o1).alloc o2).alloc o3) o4
    simpa using this
  · have := heap_alloc_new (((((w.alloc o0).alloc o1).alloc o2).alloc o3).alloc o4) o5
    simpa using this
  · exact ((((((Below.refl _ _).alloc (Nat.le_refl _) _).alloc (by simp) _).alloc (by simp; omega) _).alloc (by simp; omega) _).alloc (by simp; omega) _).alloc (by simp; omega) _
theorem cell_row {w : World} {g i : Nat} {arr : Array Value} {t : TypeId} (h : w.heap[g]? = some (.cells arr t)) : w.cell? ⟨g, i, none⟩ = arr[i]? := cell_of_row w g i arr t (0, 0) h
theorem frozen_row {w : World} {g i : Nat} {arr : Array Value} {t : TypeId} (h : w.heap[g]? = some (.cells arr t)) : w.frozen? ⟨g, i, none⟩ = false := by simp [World.frozen?, h]
theorem StepAt.below {w w' : World} {G q N : Nat} {st : Stp} (h : StepAt w G q st) (k : Below N w w') (hG : G < N) : StepAt w' G q st := by
  have c : ∀ i v, w.cell? ⟨G, i, none⟩ = some v → w'.cell? ⟨G, i, none⟩ = some v := fun i v hv => (k.cell (by exact hG)).trans hv
  cases st with
  | done => exact c _ _ h
  | one f n => exact ⟨c _ _ h.1, c _ _ h.2.1, fun i hi => by obtain ⟨z, hz, hw⟩ := h.2.2 i hi; exact ⟨z, c _ _ hz, hw⟩⟩
  | beg n => exact ⟨c _ _ h.1, c _ _ h.2⟩
  | fin n => exact ⟨c _ _ h.1, c _ _ h.2⟩
  | fork n o => exact ⟨c _ _ h.1, c _ _ h.2.1, c _ _ h.2.2⟩
/-- a search when it is begun -/
structure Beg (w W : World) (P o G cap ee : Nat) (D : List Stp) (s : ByteArray) (fr : Nat) : Prop where
  sh : Sh W ⟨w.heap.size + 1, w.heap.size, P, o, G, cap, ee, s, D⟩ fr (List.replicate D.length 0) false 0 0
  wa : Ways W (w.heap.size + 3) (w.heap.size + 2) D.length []
  wb : Ways W (w.heap.size + 5) (w.heap.size + 4) D.length []
  bl : Below w.heap.size w W
  sz : W.heap.size = w.heap.size + 6
theorem find_beg {P o G cap ee : Nat} {D : List Stp} {w : World} {s : ByteArray} {fr : Nat} (p0 : w.cell? ⟨P, o, none⟩ = some (.slice (some ⟨G, 0, none⟩) D.length cap)) (p1 : w.cell? ⟨P, o + 1, none⟩ = some (.int .i64 ee)) (hst : ∀ (q : Nat) (st : Stp), D[q]? = some st → StepAt w G q st) (hG : G < w.heap.size) :
    Beg w ((((((w.alloc (.cells (mkI D.length) 3)).alloc (.cells #[.pointer (some ⟨P, o, none⟩), .string s, .int .i64 fr, .slice (some ⟨w.heap.size, 0, none⟩) D.length D.length, .bool false, .int .i64 0, .int .i64 0] 89)).alloc (.cells (mkW D.length) 150)).alloc (.cells #[.slice (some ⟨w.heap.size + 1 + 1, 0, none⟩) D.length D.length, .int .i64 0] 93)).alloc (.cells (mkW D.length) 150)).alloc (.cells #[.slice (some ⟨w.heap.size + 1 + 1 + 1 + 1, 0, none⟩) D.length D.length, .int .i64 0] 93)) P o G cap ee D s fr := by
  obtain ⟨h0, h1, h2, h3, h4, h5, hb, hz⟩ := six_new w (.cells (mkI D.length) 3) (.cells #[.pointer (some ⟨P, o, none⟩), .string s, .int .i64 fr, .slice (some ⟨w.heap.size, 0, none⟩) D.length D.length, .bool false, .int .i64 0, .int .i64 0] 89) (.cells (mkW D.length) 150) (.cells #[.slice (some ⟨w.heap.size + 1 + 1, 0, none⟩) D.length D.length, .int .i64 0] 93) (.cells (mkW D.length) 150) (.cells #[.slice (some ⟨w.heap.size + 1 + 1 + 1 + 1, 0, none⟩) D.length D.length, .int .i64 0] 93)
  generalize ((((((w.alloc (.cells (mkI D.length) 3)).alloc (.cells #[.pointer (some ⟨P, o, none⟩), .string s, .int .i64 fr, .slice (some ⟨w.heap.size, 0, none⟩) D.length D.length, .bool false, .int .i64 0, .int .i64 0] 89)).alloc (.cells (mkW D.length) 150)).alloc (.cells #[.slice (some ⟨w.heap.size + 1 + 1, 0, none⟩) D.length D.length, .int .i64 0] 93)).alloc (.cells (mkW D.length) 150)).alloc (.cells #[.slice (some ⟨w.heap.size + 1 + 1 + 1 + 1, 0, none⟩) D.length D.length, .int .i64 0] 93)) = W at h0 h1 h2 h3 h4 h5 hb hz ⊢
  have lP : P < w.heap.size := World.block_lt_of_cell? w _ p1
  refine ⟨⟨?_, ?_, ?_, ?_, ?_, ?_, ?_, frozen_row h1, frozen_row h1, frozen_row h1, frozen_row h1, by simp, fun i v hv => ?_, (hb.cell (by exact lP)).trans p0, (hb.cell (by exact lP)).trans p1, fun q st hq => (hst q st hq).below hb hG⟩, ⟨?_, ?_, frozen_row h3, fun i x hx => by simp at hx, fun i hi => ⟨⟨_, (cell_row h2).trans (mkW_get hi)⟩, frozen_row h2⟩⟩, ⟨?_, ?_, frozen_row h5, fun i x hx => by simp at hx, fun i hi => ⟨⟨_, (cell_row h4).trans (mkW_get hi)⟩, frozen_row h4⟩⟩, hb, hz⟩
  all_goals first
    | exact (cell_row h1).trans rfl
    | exact (cell_row h3).trans rfl
    | exact (cell_row h5).trans rfl
    | skip
  have hi : i < D.length := by have := (List.getElem?_eq_some_iff.1 hv).1; simpa using this
  have hv0 : v = 0 := by rw [List.getElem?_replicate, if_pos hi] at hv; cases hv; rfl
  subst hv0
  exact ⟨(cell_row h0).trans (mkI_get hi), frozen_row h0⟩

set_option maxHeartbeats 3200000 in
set_option maxRecDepth 100000 in
theorem find_in (P o G cap ee : Nat) (D : List Stp) (w : World) (s : ByteArray) (fr : Nat) (p0 : w.cell? ⟨P, o, none⟩ = some (.slice (some ⟨G, 0, none⟩) D.length cap)) (p1 : w.cell? ⟨P, o + 1, none⟩ = some (.int .i64 ee)) (p2 : w.cell? ⟨P, o + 2, none⟩ = some (.int .i64 0)) (hst : ∀ q st, D[q]? = some st → StepAt w G q st) (hG : G < w.heap.size)
    (hW : WfC D) (hD : D.length ≤ 1000) (he : ee < D.length) (h0 : D[0]? = some .done) (hu : ∀ q, D[q]? = some .done → q = 0) (hs : s.size ≤ 1000000000) (hf : fr ≤ s.size) :
    Calls Tryd.prog 30 #[.pointer (some ⟨P, o, none⟩), .string s, .int .i64 fr] w fun e w' => Below w.heap.size w w' ∧ ∃ (fd : Bool) (a b : Nat), e = .returned (.tuple #[.int .i64 a, .int .i64 b, .bool fd]) ∧ Best s.data.toList.length (fun i j => Run s.data.toList D ee i j) fr fd a b := by
  have hf0 : (0 : Int) ≤ (fr : Int) := by omega
  have hf1 : (fr : Int) ≤ (s.size : Int) := by omega
  have hDp : 0 < D.length := by omega
  have hD0 : ((D.length : Int) == 0) = false := by
    rw [beq_eq_false_iff_ne]
    omega
  have hflt : decide ((fr : Int) < 0) = false := by simp
  have hfgN : decide (s.size < fr) = false := by simp; omega
  have lP : P < w.heap.size := World.block_lt_of_cell? w _ p1
  have n0 : w.heap.size ≠ P := by omega
  have n1 : w.heap.size + 1 ≠ P := by omega
  have n2 : w.heap.size + 1 + 1 ≠ P := by omega
  have n3 : w.heap.size + 1 + 1 + 1 ≠ P := by omega
  have n4 : w.heap.size + 1 + 1 + 1 + 1 ≠ P := by omega
  have n5 : w.heap.size + 1 + 1 + 1 + 1 + 1 ≠ P := by omega
  have hfgt : decide ((s.size : Int) < (fr : Int)) = false := by simp; omega
  have hmk1 := mk_ints D.length hD
  have hmk2 := mk_ways D.length hD
  have HW := hd hW
  have Hst := hd hst
  have H0 := hd h0
  have Hu := hd hu
  clear hW hst h0 hu
  go_enter Tryd.func30, Tryd.ntmps30
  have Hbeg := hd (find_beg (s := s) (fr := fr) p0 p1 Hst.out hG)
  go_upto_region 9 with fail
  generalize ((((((w.alloc (.cells (mkI D.length) 3)).alloc (.cells #[.pointer (some ⟨P, o, none⟩), .string s, .int .i64 fr, .slice (some ⟨w.heap.size, 0, none⟩) D.length D.length, .bool false, .int .i64 0, .int .i64 0] 89)).alloc (.cells (mkW D.length) 150)).alloc (.cells #[.slice (some ⟨w.heap.size + 1 + 1, 0, none⟩) D.length D.length, .int .i64 0] 93)).alloc (.cells (mkW D.length) 150)).alloc (.cells #[.slice (some ⟨w.heap.size + 1 + 1 + 1 + 1, 0, none⟩) D.length D.length, .int .i64 0] 93)) = W at Hbeg ⊢
  have Hbl := hd Hbeg.out.bl
  have Hszw : Hid (w.heap.size + 6 ≤ W.heap.size) := hd (Nat.le_of_eq Hbeg.out.sz.symm)
  have HSh := hd Hbeg.out.sh
  have HWa := hd Hbeg.out.wa
  have HWb := hd Hbeg.out.wb
  generalize hN : w.heap.size = N at Hbl Hszw HSh HWa HWb n0 n1 n2 n3 n4 n5 hG lP ⊢
  have HN := hd hN
  clear hN Hbeg Hst p0 p1 hmk1 hmk2
  have p1 := HSh.out.p1
  simp only at p1
  have HApt : Hid (Apt ⟨N + 1, N, P, o, G, cap, ee, s, D⟩) := hd ⟨by simp, by simp; omega, by simp; omega, by simp; omega, by simp; omega⟩
  have HA : Hid (Apw ⟨N + 1, N, P, o, G, cap, ee, s, D⟩ (N + 3) (N + 2)) := hd ⟨HApt.out, by omega, by simp, by simp, by simp, by simp, by simp; omega, by simp; omega, by simp; omega, by simp; omega⟩
  have HB : Hid (Apw ⟨N + 1, N, P, o, G, cap, ee, s, D⟩ (N + 5) (N + 4)) := hd ⟨HApt.out, by omega, by simp, by simp, by simp, by simp, by simp; omega, by simp; omega, by simp; omega, by simp; omega⟩
  have Hen := hd (enter_any ⟨N + 1, N, P, o, G, cap, ee, s, D⟩ (N + 3) (N + 2) fr fr HA.out HW.out hD (by omega) (by show fr ≤ s.size; omega) W ⟨List.replicate D.length 0, [], false, 0, 0⟩ ee he (fun q v hv => by
    have hv' : (List.replicate D.length 0)[q]? = some v := hv
    rw [List.getElem?_replicate] at hv'
    split at hv'
    · cases hv'; omega
    · cases hv') (Nat.zero_le _) HSh.out HWa.out)
  go_wp2_with fail
  refine Hen.out.mono ?_
  rintro e w1 ⟨rfl, s1, hE, hS1, hL1, hB1⟩
  have hP1 := plc_first (fun q v hv => by
    have hv' : (List.replicate D.length 0)[q]? = some v := hv
    rw [List.getElem?_replicate] at hv'
    split at hv'
    · cases hv'; rfl
    · cases hv') rfl rfl rfl rfl Hu.out H0.out hE
  obtain ⟨hP1, hh1, hc1⟩ := hP1
  have hLb1 := HWb.out.bl hB1 (by simp) (by simp)
  have Hb1 : Hid (Below N w w1) := hd (Hbl.out.trans (hB1.below (by simp) (by have := Hszw.out; omega)))
  have HP1 := hd hP1
  have Hh1 := hd hh1
  have hc1' : s1.li.length ≤ D.length := by
    have h2 : s1.sn.count (fr + 1) ≤ s1.sn.length := List.count_le_length
    rw [hS1.snl] at h2
    simp only at h2
    omega
  have hsz1 : N + 6 ≤ w1.heap.size := Nat.le_trans Hszw.out hB1.size
  clear hE hP1 hh1 hB1 hc1 p1
  go_wp2
  go_loopg [11, 12] (s.size + 1) (fun k nv lv wr => ∃ (t A LA B LB : Nat) (X : List (Nat × Nat)) (x : Sx), nv = .pointer (some ⟨A, 0, none⟩) ∧ lv = .pointer (some ⟨B, 0, none⟩) ∧ ((A = N + 3 ∧ LA = N + 2 ∧ B = N + 5 ∧ LB = N + 4) ∨ (A = N + 5 ∧ LA = N + 4 ∧ B = N + 3 ∧ LB = N + 2)) ∧ Sh wr ⟨N + 1, N, P, o, G, cap, ee, s, D⟩ t x.sn x.fd x.a x.b ∧ Ways wr A LA D.length x.li ∧ Ways wr B LB D.length X ∧ Hid (Plc s.data.toList D ee fr t x.li x.fd x.a x.b) ∧ Hid (∀ (q v : Nat), x.sn[q]? = some v → v ≤ t + 1) ∧ x.li.length ≤ D.length ∧ fr ≤ t ∧ t ≤ s.size ∧ s.size < t + k ∧ Hid (Below N w wr) ∧ N + 6 ≤ wr.heap.size)
  case atStart => exact ⟨fr, N + 3, N + 2, N + 5, N + 4, [], s1, rfl, rfl, .inl ⟨rfl, rfl, rfl, rfl⟩, hS1, hL1, hLb1, HP1, Hh1, hc1', Nat.le_refl _, hf, by omega, Hb1, hsz1⟩
  case round =>
    obtain ⟨t, A, LA, B, LB, X, x, rfl, rfl, hsw, hS, hLA, hLB, HP, Hh, hxl, hft, hts, hgk, Hb, hsz⟩ := hrel
    have s2 := hS.s2
    have s4 := hS.s4
    have s5 := hS.s5
    have s6 := hS.s6
    have a1 := hLA.a1
    by_cases hlt1 : t < s.size
    · have hne : A ≠ LA ∧ A ≠ B ∧ A ≠ LB ∧ LA ≠ B ∧ LA ≠ LB := by omega
      have HAw : Hid (Apw ⟨N + 1, N, P, o, G, cap, ee, s, D⟩ A LA) := by rcases hsw with ⟨rfl, rfl, rfl, rfl⟩ | ⟨rfl, rfl, rfl, rfl⟩; exact HA; exact HB
      have HBw : Hid (Apw ⟨N + 1, N, P, o, G, cap, ee, s, D⟩ B LB) := by rcases hsw with ⟨rfl, rfl, rfl, rfl⟩ | ⟨rfl, rfl, rfl, rfl⟩; exact HB; exact HA
      have hcg := ch_get s t hlt1
      have Hpass := hd (pass_any ⟨N + 1, N, P, o, G, cap, ee, s, D⟩ A LA B LB fr t HAw.out HBw.out ⟨hne.2.1, hne.2.2.1, hne.2.2.2.1, hne.2.2.2.2⟩ HW.out hD hlt1 hs he H0.out Hu.out hft x.li X x.fd x.a x.b x.sn wr HP.out hxl Hh.out hS hLA hLB)
      have t0 : (0 : Int) ≤ (t : Int) := by omega
      have t1 : (t : Int) < (s.size : Int) := by omega
      obtain ⟨gf, rfl⟩ : ∃ f, gk = f + 1 := ⟨gk - 1, by omega⟩
      by_cases hnil : x.li = []
      · have a1' : wr.cell? ⟨A, 1, none⟩ = some (.int .i64 0) := by rw [hnil] at a1; exact a1
        have Hnil := hd hnil
        clear a1 hnil
        cases hfd : x.fd
        · rw [hfd] at s4
          go_wp2_with fail
          refine Hpass.out.mono ?_
          rintro e w4 ⟨rfl, x4, hP4, hh4, hl4, hS4, hLB4, hLA4, hB4⟩
          have Hb4 : Hid (Below N w w4) := hd (Hb.out.trans (hB4.below (by simp; omega) (by omega)))
          have HP4 := hd hP4
          have Hh4 := hd hh4
          have hsz4 : N + 6 ≤ w4.heap.size := Nat.le_trans hsz hB4.size
          clear hP4 hh4 hB4 hS hLA hLB s2 s4 s5 s6 a1'
          go_wp2
          go_roundg gf
          case measure => omega
          case rel => exact ⟨t + 1, B, LB, A, LA, x.li, x4, rfl, rfl, by omega, hS4, hLB4, hLA4, HP4, Hh4, hl4, by omega, by omega, by omega, Hb4, hsz4⟩
        · rw [hfd] at s4
          go_wp2
          go_quiet (fail)
          go_wp2
          go_ret3
          exact ⟨HN.out ▸ below_drN Hb.out, true, x.a, x.b, rfl, hfd ▸ HP.out.best (by rw [len_data]; omega) (.inr ⟨Hnil.out, hfd⟩) Hu.out H0.out⟩
      · have hnI : (0 : Int) < (x.li.length : Int) := by
          have := List.length_pos_iff.2 hnil
          omega
        have hnb : decide ((0 : Int) < (x.li.length : Int)) = true := by simp; exact List.length_pos_iff.2 hnil
        have hnz : 0 < x.li.length := List.length_pos_iff.2 hnil
        cases hfd : x.fd
        · rw [hfd] at s4
          go_wp2_with fail
          refine Hpass.out.mono ?_
          rintro e w4 ⟨rfl, x4, hP4, hh4, hl4, hS4, hLB4, hLA4, hB4⟩
          have Hb4 : Hid (Below N w w4) := hd (Hb.out.trans (hB4.below (by simp; omega) (by omega)))
          have HP4 := hd hP4
          have Hh4 := hd hh4
          have hsz4 : N + 6 ≤ w4.heap.size := Nat.le_trans hsz hB4.size
          clear hP4 hh4 hB4 hS hLA hLB s2 s4 s5 s6 a1
          go_wp2
          go_roundg gf
          case measure => omega
          case rel => exact ⟨t + 1, B, LB, A, LA, x.li, x4, rfl, rfl, by omega, hS4, hLB4, hLA4, HP4, Hh4, hl4, by omega, by omega, by omega, Hb4, hsz4⟩
        · rw [hfd] at s4
          go_wp2_with fail
          refine Hpass.out.mono ?_
          rintro e w4 ⟨rfl, x4, hP4, hh4, hl4, hS4, hLB4, hLA4, hB4⟩
          have Hb4 : Hid (Below N w w4) := hd (Hb.out.trans (hB4.below (by simp; omega) (by omega)))
          have HP4 := hd hP4
          have Hh4 := hd hh4
          have hsz4 : N + 6 ≤ w4.heap.size := Nat.le_trans hsz hB4.size
          clear hP4 hh4 hB4 hS hLA hLB s2 s4 s5 s6 a1
          go_wp2
          go_roundg gf
          case measure => omega
          case rel => exact ⟨t + 1, B, LB, A, LA, x.li, x4, rfl, rfl, by omega, hS4, hLB4, hLA4, HP4, Hh4, hl4, by omega, by omega, by omega, Hb4, hsz4⟩
    · have hte : t = s.size := by omega
      have hnl : ¬ (t : Int) < (s.size : Int) := by omega
      have hnd : decide ((t : Int) < (s.size : Int)) = false := by simp; omega
      have hnN : decide (t < s.size) = false := by simp; omega
      go_wp2
      go_quiet (fail)
      go_wp2
      go_ret3
      exact ⟨HN.out ▸ below_drN Hb.out, x.fd, x.a, x.b, rfl, HP.out.best (by rw [len_data]; omega) (.inl (by rw [len_data]; exact hte)) Hu.out H0.out⟩
end Go.Proofs.YtldiemjlpnachaaDoor
