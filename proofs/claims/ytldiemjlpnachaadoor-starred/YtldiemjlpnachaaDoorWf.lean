import Derived.Test.YtldiemjlpnachaaDoorFind
import Derived.Test.YtldiemjlpnachaaDoorComp
namespace Go.Proofs.YtldiemjlpnachaaDoor
open Go.RowKit

theorem WfS.mono {n m : Nat} {st : Stp} (h : WfS n st) (hm : n ≤ m) : WfS m st := by
  cases st with
  | done => trivial
  | one f k => exact Nat.lt_of_lt_of_le h hm
  | beg k => exact Nat.lt_of_lt_of_le h hm
  | fin k => exact Nat.lt_of_lt_of_le h hm
  | fork k o => exact ⟨Nat.lt_of_lt_of_le h.1 hm, Nat.lt_of_lt_of_le h.2 hm⟩
theorem WfC.snoc {c : List Stp} {st : Stp} (h : WfC c) (hs : WfS (c.length + 1) st) : WfC (c ++ [st]) := by
  intro q st' hq
  rw [List.length_append, List.length_singleton]
  rcases Nat.lt_or_ge q c.length with hl | hl
  · rw [List.getElem?_append_left hl] at hq
    exact (h q st' hq).mono (by omega)
  · rw [List.getElem?_append_right hl] at hq
    rcases Nat.eq_zero_or_pos (q - c.length) with h0 | h0
    · rw [h0] at hq; simp at hq; rw [← hq]; exact hs
    · rw [List.getElem?_eq_none (by simp; omega)] at hq; cases hq
theorem WfC.set {c : List Stp} {st : Stp} {i : Nat} (h : WfC c) (hs : WfS c.length st) : WfC (c.set i st) := by
  intro q st' hq
  rw [List.length_set]
  by_cases e : i = q
  · subst e
    have hl : i < c.length := by have := (List.getElem?_eq_some_iff.1 hq).1; simpa using this
    rw [List.getElem?_set_self hl] at hq
    cases hq
    exact hs
  · rw [List.getElem?_set_ne e] at hq
    exact h q st' hq
/-- steps laid on c: whole, the entry among them, none of the new ones an end -/
structure Wfr (c : List Stp) (r : List Stp × Nat) : Prop where
  wf : WfC r.1
  en : r.2 < r.1.length
  le : c.length ≤ r.1.length
  nd : ∀ q : Nat, c.length ≤ q → r.1[q]? ≠ some .done
def WfG (g : Nat → List Stp → List Stp × Nat) : Prop := ∀ n c, WfC c → n < c.length → Wfr c (g n c)
theorem wf_one (st : Nat → Stp) (hs : ∀ n m, n < m → WfS m (st n)) (hd : ∀ n, st n ≠ .done) : WfG (fun n c => (c ++ [st n], c.length)) := by
  intro n c hc hn
  refine ⟨hc.snoc (hs n _ (by omega)), by simp, by simp, fun q hq h => ?_⟩
  rw [List.getElem?_append_right hq] at h
  rcases Nat.eq_zero_or_pos (q - c.length) with h0 | h0
  · rw [h0] at h; simp at h; exact hd n h
  · rw [List.getElem?_eq_none (by simp; omega)] at h; cases h
theorem Wfr.then {c : List Stp} {r : List Stp × Nat} {g : Nat → List Stp → List Stp × Nat} (h : Wfr c r) (hg : WfG g) (hp : ∀ n c q, q < c.length → (g n c).1[q]? = c[q]?) : Wfr c (g r.2 r.1) := by
  have k := hg r.2 r.1 h.wf h.en
  refine ⟨k.wf, k.en, Nat.le_trans h.le k.le, fun q hq hd => ?_⟩
  rcases Nat.lt_or_ge q r.1.length with hl | hl
  · rw [hp _ _ _ hl] at hd; exact h.nd q hq hd
  · exact k.nd q hl hd
theorem Wfr.fork {c : List Stp} {r : List Stp × Nat} {n : Nat} (h : Wfr c r) (hn : n < c.length) : Wfr c (r.1 ++ [.fork r.2 n], r.1.length) := by
  have hle := h.le
  have hen := h.en
  refine ⟨h.wf.snoc ⟨by omega, by omega⟩, by simp, by simp; omega, fun q hq hd => ?_⟩
  rcases Nat.lt_or_ge q r.1.length with hl | hl
  · rw [List.getElem?_append_left hl] at hd; exact h.nd q hq hd
  · rw [List.getElem?_append_right hl] at hd
    rcases Nat.eq_zero_or_pos (q - r.1.length) with h0 | h0
    · rw [h0] at hd; simp at hd
    · rw [List.getElem?_eq_none (by simp; omega)] at hd; cases hd
theorem wf_nil {n : Nat} {c : List Stp} (hc : WfC c) (hn : n < c.length) : Wfr c (c, n) :=
  ⟨hc, hn, Nat.le_refl _, fun q hq h => by rw [List.getElem?_eq_none hq] at h; cases h⟩
theorem wf_rep {g : Nat → List Stp → List Stp × Nat} (hg : WfG g) (hp : ∀ n c q, q < c.length → (g n c).1[q]? = c[q]?) (a b : Int) : WfG (repC g a b) := by
  intro n c hc hn
  have hfk : ∀ t, Wfr c (forksC g n t n c) := by
    intro t
    induction t with
    | zero => exact wf_nil hc hn
    | succ t ih => rw [forksC]; exact (ih.then hg hp).fork hn
  have hlp : Wfr c (loopC g n c) := by
    unfold loopC
    have k := hg c.length (c ++ [.fork 0 n]) (hc.snoc (st := .fork 0 n) ⟨by omega, by omega⟩) (by simp)
    have kl := k.le
    have ke := k.en
    simp only [List.length_append, List.length_singleton] at kl
    refine ⟨k.wf.set ⟨ke, by omega⟩, by simp; omega, by simp; omega, fun q hq hd => ?_⟩
    simp only at hd
    by_cases e : c.length = q
    · subst e
      rw [List.getElem?_set_self (by omega)] at hd
      simp at hd
    · rw [List.getElem?_set_ne e] at hd
      exact k.nd q (by simp; omega) hd
  have hcp : ∀ {r : List Stp × Nat}, Wfr c r → ∀ t, Wfr c (copiesC g t r.2 r.1) := by
    intro r hr t
    induction t with
    | zero => exact hr
    | succ t ih => rw [copiesC]; exact ih.then hg hp
  unfold repC
  split
  · exact hcp hlp _
  · exact hcp (hfk _) _
mutual
theorem wf_item : ∀ x : Tr, WfG (fun n c => itemC x n c)
  | .one f => by intro n c; simp only [itemC]; exact wf_one (fun n => .one f n) (fun _ _ h => h) (fun _ h => by cases h) n c
  | .beg => by intro n c; simp only [itemC]; exact wf_one (fun n => .beg n) (fun _ _ h => h) (fun _ h => by cases h) n c
  | .fin => by intro n c; simp only [itemC]; exact wf_one (fun n => .fin n) (fun _ _ h => h) (fun _ h => by cases h) n c
  | .back _ => by intro n c hc hn; simp only [itemC]; exact wf_nil hc hn
  | .grp _ r => by intro n c; simp only [itemC]; exact wf_row r n c
  | .rep a b x => by
    intro n c
    simp only [itemC]
    split
    · exact wf_item x n c
    · exact wf_rep (wf_item x) (fun n c q hq => (frag_item [] x n c).pre q hq) a b n c
theorem wf_row : ∀ r : List Tr, WfG (fun n c => rowC r n c)
  | [] => by intro n c hc hn; simp only [rowC]; exact wf_nil hc hn
  | x :: r => by intro n c hc hn; simp only [rowC]; exact (wf_row r n c hc hn).then (wf_item x) (fun n c q hq => (frag_item [] x n c).pre q hq)
end
theorem wf_build (r : List Tr) : WfC (buildC r).1 ∧ (buildC r).2 < (buildC r).1.length ∧ (buildC r).1[0]? = some .done ∧ ∀ q : Nat, (buildC r).1[q]? = some .done → q = 0 := by
  have h := wf_row r 0 [.done] (fun q st hq => by
    rcases Nat.eq_zero_or_pos q with h0 | h0
    · subst h0; simp at hq; rw [← hq]; trivial
    · rw [List.getElem?_eq_none (by simp; omega)] at hq; cases hq) (by simp)
  refine ⟨h.wf, h.en, ((frag_row [] r 0 [.done]).pre 0 (by simp)).trans rfl, fun q hq => ?_⟩
  rcases Nat.eq_zero_or_pos q with h0 | h0
  · exact h0
  · exact absurd hq (h.nd q (by simp; omega))

/-- the steps that Build has handed out, cell by cell -/
theorem CodeIn.steps {w0 w : World} {v : Value} {cs : List Stp} (h : CodeIn w0 w v (lft cs)) (hn : 0 < cs.length) : ∃ G cap, v = .slice (some ⟨G, 0, none⟩) cs.length cap ∧ w0.heap.size ≤ G ∧ G < w.heap.size ∧ ∀ (q : Nat) (st : Stp), cs[q]? = some st → StepAt w G q st := by
  obtain ⟨⟨css, hown, hcs⟩, _⟩ := h
  rw [lft_len] at hown
  obtain ⟨G, cap, rfl, hb, hl⟩ := hown.form (by omega)
  refine ⟨G, cap, rfl, hb, hl, fun q st hq => ?_⟩
  have hql : q < cs.length := (List.getElem?_eq_some_iff.1 hq).1
  have hqc : q < css.length := by rw [hcs.1, lft_len]; exact hql
  have hok := hcs.2 q css[q] (skOf st, 0) (List.getElem?_eq_getElem hqc) (by unfold lft; rw [List.getElem?_map, hq]; rfl)
  generalize levs (((lft cs).map Prod.snd).take q) = fi at hok
  have cl : ∀ j v, j < 14 → (css[q])[j]? = some v → w.cell? ⟨G, q * 14 + j, none⟩ = some v := fun j v hj hv => owns_cell hown _ v (by rw [flat_get 14 css q j css[q] hcs.lens (List.getElem?_eq_getElem hqc) hj]; exact hv)
  cases st with
  | done =>
    have e : css[q] = stepCells 0 (fun _ => 0) 0 0 0 0 fi := hok
    exact cl 0 _ (by omega) (by rw [e]; rfl)
  | one f n =>
    obtain ⟨a, e, ha⟩ := hok
    refine ⟨cl 0 _ (by omega) (by rw [e]; rfl), cl 10 _ (by omega) (by rw [e]; rfl), fun i hi => ⟨a i, ?_, ha i hi⟩⟩
    have := cl (1 + i) (.int .u32 (a i)) (by omega) (by
      rw [e]
      rcases (show i = 0 ∨ i = 1 ∨ i = 2 ∨ i = 3 ∨ i = 4 ∨ i = 5 ∨ i = 6 ∨ i = 7 by omega) with rfl | rfl | rfl | rfl | rfl | rfl | rfl | rfl <;> rfl)
    rw [show q * 14 + 1 + i = q * 14 + (1 + i) by omega]
    exact this
  | beg n =>
    have e : css[q] = stepCells 2 (fun _ => 0) 0 n 0 0 fi := hok
    exact ⟨cl 0 _ (by omega) (by rw [e]; rfl), cl 10 _ (by omega) (by rw [e]; rfl)⟩
  | fin n =>
    have e : css[q] = stepCells 3 (fun _ => 0) 0 n 0 0 fi := hok
    exact ⟨cl 0 _ (by omega) (by rw [e]; rfl), cl 10 _ (by omega) (by rw [e]; rfl)⟩
  | fork n o =>
    have e : css[q] = stepCells 4 (fun _ => 0) 0 n o 0 fi := hok
    exact ⟨cl 0 _ (by omega) (by rw [e]; rfl), cl 10 _ (by omega) (by rw [e]; rfl), cl 11 _ (by omega) (by rw [e]; rfl)⟩

set_option maxHeartbeats 1600000 in
/-- FIND, of a pattern without references back. -/
theorem pfind_any (w0 w : World) (g : Nat) (l : List UInt8) (s : ByteArray) (fr : Int) (hok : (parseT l).1 = 0) (hP : ProgIn w0 w g l) (hr : refT0 l = []) (hs : s.size ≤ 1000000000) :
    Calls Tryd.prog 16 #[.pointer (some ⟨g, 0, none⟩), .string s, .int .i64 fr] w fun e w' => FindPost w w' s.data.toList (fun i j => MtRow s.data.toList ((itsT l).map (·.3)) i j) fr e := by
  obtain ⟨v, c1, c2, _, hcode⟩ := hP.code
  have hbk := (refs_T hok).1
  have c3 := hP.c3
  have hle := hP.le
  rw [hr] at hbk c2 hcode c3 hle
  rw [build_nil _ hbk] at c2 hcode hle
  simp only [List.length_nil, lft_len] at c3 hle c2 hcode
  obtain ⟨hW, he, h0, hu⟩ := wf_build ((itsT l).map (·.3))
  obtain ⟨G, cap, rfl, _, hG, hst⟩ := hcode.steps (by omega)
  have Hfind : Hid (Calls Tryd.prog 30 #[.pointer (some ⟨g, 1, none⟩), .string s, .int .i64 fr] w fun e w' => FindPost w w' s.data.toList (fun i j => MtRow s.data.toList ((itsT l).map (·.3)) i j) fr e) := by
    refine hd ?_
    by_cases hf : 0 ≤ fr ∧ fr ≤ s.size
    · obtain ⟨f, rfl⟩ := Int.eq_ofNat_of_zero_le hf.1
      refine (find_in g 1 G cap _ _ w s f c1 c2 c3 hst hG hW (by omega) he h0 hu hs (by omega)).mono ?_
      rintro e w' ⟨hb, fd, a, b, rfl, hbest⟩
      refine ⟨hb, fd, a, b, rfl, fun _ => ?_, fun h => ?_⟩
      · rw [Int.toNat_natCast]
        exact hbest.congr (fun i j => build_ok s.data.toList _ i j)
      · exact absurd ⟨hf.1, by rw [len_data]; exact hf.2⟩ h
    · refine (find_out g 1 w s fr _ _ _ c1 c3 hf).mono ?_
      rintro e w' ⟨rfl, hb⟩
      refine ⟨hb, false, 0, 0, rfl, fun h => ?_, fun _ => ⟨rfl, rfl, rfl⟩⟩
      exact absurd ⟨h.1, by have := h.2; rw [len_data] at this; exact this⟩ hf
  clear hst hcode hW he h0 hu hP c1 c2 c3
  go_enter Tryd.func16, Tryd.ntmps16
  go_wp2_with fail
  refine Hfind.out.mono ?_
  rintro e w' ⟨hb, fd, a, b, rfl, h1, h2⟩
  have HF : Hid (FindPost w w' s.data.toList (fun i j => MtRow s.data.toList ((itsT l).map (·.3)) i j) fr (.returned (.tuple #[.int .i64 a, .int .i64 b, .bool fd]))) := hd ⟨hb, fd, a, b, rfl, h1, h2⟩
  clear hb h1 h2
  go_wp2
  go_ret3
  exact HF.out
end Go.Proofs.YtldiemjlpnachaaDoor
