import Derived.Test.YtldiemjlpnachabDoorGg
/- Grep. -/
namespace Go.Proofs.YtldiemjlpnachabDoor
open Go.RowKit

theorem app_l (a b : ByteArray) : (a ++ b).data.toList = a.data.toList ++ b.data.toList := by rw [ByteArray.data_append]; simp
/-- what is said of a text, and the status -/
def grepE (p t : List UInt8) (o : Opt) : List UInt8 × Nat := if 4000 < t.length then ([], 2) else if (parseT p).1 ≠ 0 then ([], 2) else
  (if o.count = true then Lib.itoa ((runG p o ⟨0, 0, []⟩ (linesG [] t)).ch : Int) ++ [10] else (runG p o ⟨0, 0, []⟩ (linesG [] t)).out, if 0 < (runG p o ⟨0, 0, []⟩ (linesG [] t)).ch then 0 else 1)
def optV (o : Opt) : Value := .agg #[.bool o.only, .bool o.invert, .bool o.count, .bool o.number]
theorem Tb.lt {w : World} (h : Tb w) : 0 < w.heap.size := by
  unfold Tb Lib.TabIs World.var? at h
  rw [gTb] at h
  simp only [Option.bind_some] at h
  cases hh : w.heap[0]? with
  | none => rw [hh] at h; cases h
  | some x => exact (Array.getElem?_eq_some_iff.1 hh).1
theorem conv_nil (w : World) : (convert 23 9 (.slice none 0 0)).run Tryd.prog w = .ok (.string ⟨#[]⟩) w := by kernel_rfl
theorem conv_own {w : World} {base n : Nat} {v : Value} {out : List UInt8} (hn : out.length = n) (h : w.ownsRow base 5 1 v n (byC out)) : (convert 23 9 v).run Tryd.prog w = .ok (.string ⟨out.toArray⟩) w := by
  subst hn
  rcases h.2 with ⟨h0, h1⟩ | ⟨g, cap, cur, hv, _, hg, _⟩
  · rw [h0]
    have : out = [] := List.eq_nil_of_length_eq_zero h1
    rw [this]
    exact conv_nil w
  · subst hv
    refine run_convert_bytes_back (P := Tryd.prog) w 23 9 5 ⟨g, 0, none⟩ cap out Tryd.underlying23 Tryd.underlying5 Tryd.underlying9 (fun j hj => ?_)
    have e : (⟨g, 0, none⟩ : Addr).add j = ⟨g, j, none⟩ := by unfold Addr.add; split <;> simp_all
    rw [e]
    refine owns_cell h j _ ?_
    unfold byC
    rw [List.getElem?_map, List.getElem?_eq_getElem hj]
    rfl
def GrepP (p t : List UInt8) (o : Opt) (w w' : World) (e : Ending) : Prop := Below w.heap.size w w' ∧ ∃ A : ByteArray, e = .returned (.tuple #[.string A, .int .i64 (grepE p t o).2]) ∧ A.data.toList = (grepE p t o).1
theorem runG_sml {p : List UInt8} {o : Opt} : ∀ (t cur : List UInt8) (σ : Sg) (i : Nat), Sml σ i → i + t.length ≤ 4000 → cur.length + t.length ≤ 4000 → Sml (runG p o σ (linesG cur t)) (i + t.length + 1)
  | [], cur, σ, i, h, hi, hc => by
    rw [linesG]
    split
    · obtain ⟨z1, z2, z3⟩ := h
      exact ⟨by show σ.num ≤ _; simp; omega, z2, z3⟩
    · exact h.step (by simp at hi; omega) (by simp at hc; omega)
  | c :: r, cur, σ, i, h, hi, hc => by
    simp only [List.length_cons] at hi hc
    rw [linesG, List.length_cons]
    split
    · have h2 := runG_sml (p := p) (o := o) r [] (stepG p o σ cur) (i + 1) (h.step (by omega) (by omega)) (by omega) (by simp; omega)
      rw [show i + (r.length + 1) + 1 = i + 1 + r.length + 1 by omega]
      exact h2
    · have h2 := runG_sml (p := p) (o := o) r (cur ++ [c]) σ (i + 1) (by obtain ⟨z1, z2, z3⟩ := h; exact ⟨by omega, z2, z3⟩) (by omega) (by simp; omega)
      rw [show i + (r.length + 1) + 1 = i + 1 + r.length + 1 by omega]
      exact h2
set_option maxRecDepth 100000 in
set_option maxHeartbeats 3200000 in
theorem ggrep_any (p t : ByteArray) (o : Opt) (w : World) (hn : NamesIn w) (ht : Tb w) (hp : p.size ≤ maxLen) (hts : t.size ≤ maxLen) :
    Calls Tryd.prog 12 #[.string p, .string t, optV o] w fun e w' => GrepP p.data.toList t.data.toList o w w' e := by
  have Hpl := hd (len_data p)
  have Htl := hd (len_data t)
  have Hn := hd hn
  have Ht := hd ht
  clear hn ht
  unfold maxLen at hts
  by_cases h4 : 4000 < t.size
  · have h4I : (4000 : Int) < (t.size : Int) := by omega
    have HE : Hid (grepE p.data.toList t.data.toList o = ([], 2)) := hd (by unfold grepE; rw [if_pos (by rw [Htl.out]; exact h4)])
    unfold optV
    go_enter Tryd.func12, Tryd.ntmps12
    go_wp2
    refine bodyPost_ret (v := .tuple #[.string ⟨#[]⟩, .int .i64 2]) (by simp [results, Tryd.results12, go_sem]) rfl ⟨(Below.refl _ _).alloc (Nat.le_refl _) _, ⟨#[]⟩, ?_, ?_⟩
    · rw [HE.out]; rfl
    · rw [HE.out]
  · have h4I : ¬ (4000 : Int) < (t.size : Int) := by omega
    have HB0 : Hid (Below w.heap.size w (w.alloc (.cells #[.bool o.only, .bool o.invert, .bool o.count, .bool o.number] 34))) := hd ((Below.refl _ _).alloc (Nat.le_refl _) _)
    have Hc := hd (compile_any p (w.alloc (.cells #[.bool o.only, .bool o.invert, .bool o.count, .bool o.number] 34)) (Hn.out.alloc _) hp)
    have hob : (w.alloc (.cells #[.bool o.only, .bool o.invert, .bool o.count, .bool o.number] 34)).heap[w.heap.size]? = some (.cells #[.bool o.only, .bool o.invert, .bool o.count, .bool o.number] 34 (0, 0)) := heap_alloc_new _ _
    have hz0 : (w.alloc (.cells #[.bool o.only, .bool o.invert, .bool o.count, .bool o.number] 34)).heap.size = w.heap.size + 1 := by simp
    have Hob := hd hob
    have Hz0 := hd hz0
    clear hob hz0
    unfold optV
    go_enter Tryd.func12, Tryd.ntmps12
    go_wp2_with fail
    refine Hc.out.mono ?_
    generalize w.alloc (.cells #[.bool o.only, .bool o.invert, .bool o.count, .bool o.number] 34) = W0 at *
    rintro e1 w1 ⟨hb1, hh⟩
    have HB1 := hd (HB0.out.trans (hb1.mono HB0.out.size))
    have hopt : w1.heap[w.heap.size]? = some (.cells #[.bool o.only, .bool o.invert, .bool o.count, .bool o.number] 34 (0, 0)) := (hb1.block _ (by rw [Hz0.out]; omega)).trans Hob.out
    have q0 : w1.cell? ⟨w.heap.size, 0, none⟩ = some (.bool o.only) := by rw [cell_of_row _ _ _ _ _ _ hopt]; rfl
    have q1 : w1.cell? ⟨w.heap.size, 1, none⟩ = some (.bool o.invert) := by rw [cell_of_row _ _ _ _ _ _ hopt]; rfl
    have q2 : w1.cell? ⟨w.heap.size, 2, none⟩ = some (.bool o.count) := by rw [cell_of_row _ _ _ _ _ _ hopt]; rfl
    have q3 : w1.cell? ⟨w.heap.size, 3, none⟩ = some (.bool o.number) := by rw [cell_of_row _ _ _ _ _ _ hopt]; rfl
    have Hopt := hd hopt
    have lO := World.block_lt_of_cell? _ _ q0
    clear hb1 hopt Hc HB0 Hob Hz0
    rcases hh with ⟨he, g, hg, rfl, hpi⟩ | ⟨he, rfl⟩
    · have HE : Hid (grepE p.data.toList t.data.toList o = (if o.count = true then Lib.itoa ((runG p.data.toList o ⟨0, 0, []⟩ (linesG [] t.data.toList)).ch : Int) ++ [10] else (runG p.data.toList o ⟨0, 0, []⟩ (linesG [] t.data.toList)).out, if 0 < (runG p.data.toList o ⟨0, 0, []⟩ (linesG [] t.data.toList)).ch then 0 else 1)) := hd (by unfold grepE; rw [if_neg (by rw [Htl.out]; exact h4), if_neg (by rw [he]; simp)])
      have Hsm := hd (runG_sml (p := p.data.toList) (o := o) t.data.toList [] ⟨0, 0, []⟩ 0 ⟨Nat.le_refl _, Nat.le_refl _, Nat.le_refl _⟩ (by rw [Htl.out]; omega) (by rw [Htl.out]; simp; omega))
      have Hpg : Hid (PgN W0 w1 g p.data.toList w1.heap.size) := hd ⟨hpi, World.block_lt_of_cell? w1 _ hpi.c0, fun v b hv hb => by
        obtain ⟨v', h1, _, _, ⟨css, ho, _⟩, _⟩ := hpi.code
        rw [hv] at h1
        cases h1
        exact (ho.lt b hb).2⟩
      have Hok := hd he
      clear he hpi hg
      go_wp2_with fail
      have hS := heap_alloc_new w1 (.cells #[.pointer (some ⟨g, 0, none⟩), .bool o.only, .bool o.invert, .bool o.count, .bool o.number, .int .i64 0, .int .i64 0, .slice none 0 0] 68)
      have HBw : Hid (Below w1.heap.size w1 (w1.alloc (.cells #[.pointer (some ⟨g, 0, none⟩), .bool o.only, .bool o.invert, .bool o.count, .bool o.number, .int .i64 0, .int .i64 0, .slice none 0 0] 68))) := hd ((Below.refl _ _).alloc (Nat.le_refl _) _)
      generalize w1.alloc (.cells #[.pointer (some ⟨g, 0, none⟩), .bool o.only, .bool o.invert, .bool o.count, .bool o.number, .int .i64 0, .int .i64 0, .slice none 0 0] 68) = W1 at *
      have cc : ∀ i, W1.cell? ⟨w1.heap.size, i, none⟩ = (#[.pointer (some ⟨g, 0, none⟩), .bool o.only, .bool o.invert, .bool o.count, .bool o.number, .int .i64 0, .int .i64 0, .slice none 0 0] : Array Value)[i]? := fun i => cell_of_row _ _ _ _ _ _ hS
      have Hgs : Hid (Gs W1 w1.heap.size g o 0 0 []) := hd ⟨(cc 0).trans rfl, (cc 1).trans rfl, (cc 2).trans rfl, (cc 3).trans rfl, (cc 4).trans rfl, (cc 5).trans rfl, (cc 6).trans rfl, ⟨.slice none 0 0, (cc 7).trans rfl, World.ownsRow_nil _ _ _ _⟩, fun i => frozen_blk hS⟩
      have Htw : Hid (Tb W1) := hd ((Ht.out.below HB1.out Ht.out.lt).below HBw.out (Nat.lt_of_lt_of_le Ht.out.lt HB1.out.size))
      refine (glines_any Hgs.out Htw.out (Nat.lt_of_lt_of_le Ht.out.lt HB1.out.size) (Hpg.out.below HBw.out) Hok.out t (by omega)).mono ?_
      rintro e2 w2 ⟨rfl, hm2, hg2⟩
      have HB2 : Hid (Below w.heap.size w w2) := hd ((HB1.out.trans (HBw.out.mono HB1.out.size)).trans (hg2.bel.mono HB1.out.size))
      have r2 : w2.cell? ⟨w.heap.size, 2, none⟩ = some (.bool o.count) := (hg2.bel.cell (by exact lO)).trans ((HBw.out.cell (by exact lO)).trans q2)
      generalize runG p.data.toList o ⟨0, 0, []⟩ (linesG [] t.data.toList) = σ at *
      have Hm2 := hd hm2
      have r6 := hm2.c6
      have hchb : σ.ch ≤ 4001 := by obtain ⟨z1, z2, z3⟩ := Hsm.out; rw [Htl.out] at z1; omega
      have hchi : (σ.ch : Int) ≤ 4001 := by omega
      have lw : w.heap.size < w2.heap.size := World.block_lt_of_cell? _ _ r2
      clear hm2 hg2 Hgs cc hS Htw HBw q0 q1 q2 q3 Hsm
      by_cases hc0 : 0 < σ.ch
      · have hc0I : (0 : Int) < (σ.ch : Int) := by omega
        cases hct : o.count with
        | true =>
          rw [hct] at r2
          obtain ⟨A, hA⟩ : ∃ A : ByteArray, A = ⟨(Lib.itoa (σ.ch : Int)).toArray⟩ := ⟨_, rfl⟩
          have Hit : Hid (Calls Tryd.prog 23 #[.int .i64 (σ.ch : Int)] w2 fun e w' => e = .returned (.string A) ∧ ∃ k os, w' = Go.Sort.grow (w2.drewN k) os) := hd (by rw [hA]; exact Tryd.strconv_Itoa (σ.ch : Int) (by omega) (by omega) w2 (Ht.out.below HB2.out Ht.out.lt))
          have HAl : Hid (A.size ≤ 21) := hd (by have := itoa_len σ.ch (by omega); rw [hA]; simpa [ByteArray.size] using this)
          have HAd : Hid (A.data.toList = Lib.itoa (σ.ch : Int)) := hd (by rw [hA])
          have hAl := HAl.out
          clear hA
          have HE2 : Hid (grepE p.data.toList t.data.toList o = (A.data.toList ++ [10], 0)) := hd (by rw [HE.out, if_pos hct, if_pos hc0, HAd.out])
          clear hct HE
          go_wp2_with fail
          refine Hit.out.mono ?_
          rintro e3 w3 ⟨rfl, k, os, hw3⟩
          have HB3 : Hid (Below w.heap.size w w3) := hd (by subst hw3; exact HB2.out.trans ((below_grow w2 k os).mono HB2.out.size))
          clear hw3
          go_wp2
          refine bodyPost_ret (v := .tuple #[.string (A ++ ⟨#[10]⟩), .int .i64 0]) (by simp [results, Tryd.results12, go_sem]) rfl ⟨HB3.out, A ++ ⟨#[10]⟩, ?_, ?_⟩
          · rw [HE2.out]; rfl
          · rw [HE2.out, app_l]
        | false =>
          rw [hct] at r2
          obtain ⟨v7, r7, ho7⟩ := Hm2.out.c7
          have hcv := conv_own rfl ho7
          obtain ⟨va, vc, rfl⟩ := owns_shape ho7
          have HE2 : Hid (grepE p.data.toList t.data.toList o = (σ.out, 0)) := hd (by rw [HE.out, if_neg (by rw [hct]; simp), if_pos hc0])
          clear hct HE ho7
          go_wp2
          refine bodyPost_ret (v := .tuple #[.string ⟨σ.out.toArray⟩, .int .i64 0]) (by simp [results, Tryd.results12, go_sem]) rfl ⟨HB2.out, ⟨σ.out.toArray⟩, ?_, ?_⟩
          · rw [HE2.out]; rfl
          · rw [HE2.out]
      · have hc0I : ¬ (0 : Int) < (σ.ch : Int) := by omega
        cases hct : o.count with
        | true =>
          rw [hct] at r2
          obtain ⟨A, hA⟩ : ∃ A : ByteArray, A = ⟨(Lib.itoa (σ.ch : Int)).toArray⟩ := ⟨_, rfl⟩
          have Hit : Hid (Calls Tryd.prog 23 #[.int .i64 (σ.ch : Int)] w2 fun e w' => e = .returned (.string A) ∧ ∃ k os, w' = Go.Sort.grow (w2.drewN k) os) := hd (by rw [hA]; exact Tryd.strconv_Itoa (σ.ch : Int) (by omega) (by omega) w2 (Ht.out.below HB2.out Ht.out.lt))
          have HAl : Hid (A.size ≤ 21) := hd (by have := itoa_len σ.ch (by omega); rw [hA]; simpa [ByteArray.size] using this)
          have HAd : Hid (A.data.toList = Lib.itoa (σ.ch : Int)) := hd (by rw [hA])
          have hAl := HAl.out
          clear hA
          have HE2 : Hid (grepE p.data.toList t.data.toList o = (A.data.toList ++ [10], 1)) := hd (by rw [HE.out, if_pos hct, if_neg hc0, HAd.out])
          clear hct HE
          go_wp2_with fail
          refine Hit.out.mono ?_
          rintro e3 w3 ⟨rfl, k, os, hw3⟩
          have HB3 : Hid (Below w.heap.size w w3) := hd (by subst hw3; exact HB2.out.trans ((below_grow w2 k os).mono HB2.out.size))
          clear hw3
          go_wp2
          refine bodyPost_ret (v := .tuple #[.string (A ++ ⟨#[10]⟩), .int .i64 1]) (by simp [results, Tryd.results12, go_sem]) rfl ⟨HB3.out, A ++ ⟨#[10]⟩, ?_, ?_⟩
          · rw [HE2.out]; rfl
          · rw [HE2.out, app_l]
        | false =>
          rw [hct] at r2
          obtain ⟨v7, r7, ho7⟩ := Hm2.out.c7
          have hcv := conv_own rfl ho7
          obtain ⟨va, vc, rfl⟩ := owns_shape ho7
          have HE2 : Hid (grepE p.data.toList t.data.toList o = (σ.out, 1)) := hd (by rw [HE.out, if_neg (by rw [hct]; simp), if_neg hc0])
          clear hct HE ho7
          go_wp2
          refine bodyPost_ret (v := .tuple #[.string ⟨σ.out.toArray⟩, .int .i64 1]) (by simp [results, Tryd.results12, go_sem]) rfl ⟨HB2.out, ⟨σ.out.toArray⟩, ?_, ?_⟩
          · rw [HE2.out]; rfl
          · rw [HE2.out]
    · have hen : (((parseT p.data.toList).1 : Int) != 0) = true := by simp; omega
      have HE : Hid (grepE p.data.toList t.data.toList o = ([], 2)) := hd (by unfold grepE; rw [if_neg (by rw [Htl.out]; exact h4), if_pos he])
      clear he
      generalize (parseT p.data.toList).1 = er at *
      generalize (parseT p.data.toList).2.1 = ep at *
      go_wp2
      refine bodyPost_ret (v := .tuple #[.string ⟨#[]⟩, .int .i64 2]) (by simp [results, Tryd.results12, go_sem]) rfl ⟨HB1.out, ⟨#[]⟩, ?_, ?_⟩
      · rw [HE.out]; rfl
      · rw [HE.out]
end Go.Proofs.YtldiemjlpnachabDoor
