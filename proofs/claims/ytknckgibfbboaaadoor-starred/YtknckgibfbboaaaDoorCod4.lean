import Derived.Test.YtknckgibfbboaaaDoorCod3
namespace Go.Proofs.YtknckgibfbboaaaDoor
open Go.RowKit

set_option maxHeartbeats 3200000 in
theorem citem_any (H : Fins) : ∀ d, ItemBuilt H d
  | 0 => fun _ _ _ _ _ _ _ _ _ _ _ _ _ _ h => h.elim
  | d + 1 => by
    have ih := citem_any H d
    intro w base C cs g o cells it next hF hHC hc hgC hcs hok hlen
    obtain ⟨a, num, least, most, ra, rn, rc, rfl, hk0, hk1, _, _, hcase⟩ := hok
    have h0 : w.cell? ⟨g, o, none⟩ = some (.int .i64 it.1) := hcs 0 _ rfl
    have h10 : w.cell? ⟨g, o + 10, none⟩ = some (.int .i64 least) := hcs 10 _ rfl
    have h11 : w.cell? ⟨g, o + 11, none⟩ = some (.int .i64 most) := hcs 11 _ rfl
    have h12 : w.cell? ⟨g, o + 12, none⟩ = some (.slice ra rn rc) := hcs 12 _ rfl
    obtain ⟨kd, sz, tr⟩ := it
    simp only at *
    have hcn : cs.length ≤ 1000 := Nat.le_trans (itemC_len tr next cs) hlen
    rcases hcase with ⟨rfl, its, hR, _, n, _, rfl⟩ | ⟨rfl, hl0, hl1, hm0, hm1, x, hR, _, rfl, _⟩ | ⟨hn4, hn5, _, hp⟩
    · simp only [itemC] at hlen ⊢
      have Hc := hd (crow_any H d ih w base C cs ra rn rc next its hF hHC hc hR hlen)
      clear ih hF hcs hR h10 h11 hc hHC hlen
      generalize rowC (its.map (·.3)) next cs = z at Hc ⊢
      go_enter Tryd.func57, Tryd.ntmps57
      go_wp2_with (go_at_call 40; refine Hc.out.mono ?_; rintro e w' ⟨rfl, hc2, hb2⟩)
      go_ret
      exact ⟨rfl, hc2, hb2⟩
    · simp only [itemC] at hlen ⊢
      have Hc := hd (crep_any H d ih w base C cs g o least most ra rn rc next x hF hHC hc hgC h10 h11 h12 ⟨hl0, hl1⟩ ⟨hm0, hm1⟩ hR _ rfl hlen)
      clear ih hF hcs hR h10 h11 h12 hc hHC hlen
      generalize repC (fun n c => itemC x.tr n c) least most next cs = z at Hc ⊢
      go_enter Tryd.func57, Tryd.ntmps57
      go_wp2_with (go_at_call 71; refine Hc.out.mono ?_; rintro e w' ⟨rfl, hc2, hb2⟩)
      go_ret
      exact ⟨rfl, hc2, hb2⟩
    · rcases hp with ⟨rfl, f, rfl, hf⟩ | ⟨rfl, rfl⟩ | ⟨rfl, rfl⟩ | ⟨rfl, n, _, rfl⟩
      · have s1 : w.cell? ⟨g, o + 1, none⟩ = some (.int .u32 (a 0)) := hcs 1 _ rfl
        have s2 : w.cell? ⟨g, o + 2, none⟩ = some (.int .u32 (a 1)) := hcs 2 _ rfl
        have s3 : w.cell? ⟨g, o + 3, none⟩ = some (.int .u32 (a 2)) := hcs 3 _ rfl
        have s4 : w.cell? ⟨g, o + 4, none⟩ = some (.int .u32 (a 3)) := hcs 4 _ rfl
        have s5 : w.cell? ⟨g, o + 5, none⟩ = some (.int .u32 (a 4)) := hcs 5 _ rfl
        have s6 : w.cell? ⟨g, o + 6, none⟩ = some (.int .u32 (a 5)) := hcs 6 _ rfl
        have s7 : w.cell? ⟨g, o + 7, none⟩ = some (.int .u32 (a 6)) := hcs 7 _ rfl
        have s8 : w.cell? ⟨g, o + 8, none⟩ = some (.int .u32 (a 7)) := hcs 8 _ rfl
        have Hc := hd (put_c hc hcn 1 (a 0) (a 1) (a 2) (a 3) (a 4) (a 5) (a 6) (a 7) next 0 (.one f next) ⟨a, rfl, hf⟩)
        simp only [itemC]
        clear ih hF hcs h10 h11 h12 hc hHC hlen hf
        go_enter Tryd.func57, Tryd.ntmps57
        go_wp2_with (go_at_call 39; refine Hc.out.mono ?_; rintro e w' ⟨rfl, hc2, hb2⟩)
        go_ret
        exact ⟨rfl, hc2, hb2⟩
      · have Hc := hd (put_c hc hcn 2 0 0 0 0 0 0 0 0 next 0 (.beg next) rfl)
        simp only [itemC]
        clear ih hF hcs h10 h11 h12 hc hHC hlen
        go_enter Tryd.func57, Tryd.ntmps57
        go_wp2_with (go_at_call 39; refine Hc.out.mono ?_; rintro e w' ⟨rfl, hc2, hb2⟩)
        go_ret
        exact ⟨rfl, hc2, hb2⟩
      · have Hc := hd (put_c hc hcn 3 0 0 0 0 0 0 0 0 next 0 (.fin next) rfl)
        simp only [itemC]
        clear ih hF hcs h10 h11 h12 hc hHC hlen
        go_enter Tryd.func57, Tryd.ntmps57
        go_wp2_with (go_at_call 39; refine Hc.out.mono ?_; rintro e w' ⟨rfl, hc2, hb2⟩)
        go_ret
        exact ⟨rfl, hc2, hb2⟩
      · simp only [itemC]
        clear ih hF hcs h10 h11 h12 hHC hlen
        go_enter Tryd.func57, Tryd.ntmps57
        go_wp2
        go_ret
        exact ⟨rfl, hc, Below.refl _ _⟩

/-- how many steps there are at most -/
theorem loopC_le {g : Nat → List Stp → List Stp × Nat} {s : Nat} (hg : ∀ n c, (g n c).1.length ≤ c.length + s) (n : Nat) (c : List Stp) : (loopC g n c).1.length ≤ c.length + (s + 1) := by
  unfold loopC
  have := hg c.length (c ++ [.fork 0 n])
  simp only [List.length_set, List.length_append, List.length_singleton] at this ⊢
  omega
theorem forksC_le {g : Nat → List Stp → List Stp × Nat} {s : Nat} (hg : ∀ n c, (g n c).1.length ≤ c.length + s) (n e : Nat) (c : List Stp) : ∀ t, (forksC g n t e c).1.length ≤ c.length + t * (s + 1)
  | 0 => by simp [forksC]
  | t + 1 => by
    have h1 := forksC_le hg n e c t
    have h2 := hg (forksC g n t e c).2 (forksC g n t e c).1
    rw [forksC]
    simp only [List.length_append, List.length_singleton]
    have : (t + 1) * (s + 1) = t * (s + 1) + (s + 1) := by rw [Nat.add_mul, Nat.one_mul]
    omega
theorem copiesC_le {g : Nat → List Stp → List Stp × Nat} {s : Nat} (hg : ∀ n c, (g n c).1.length ≤ c.length + s) (e : Nat) (c : List Stp) : ∀ t, (copiesC g t e c).1.length ≤ c.length + t * s
  | 0 => by simp [copiesC]
  | t + 1 => by
    have h1 := copiesC_le hg e c t
    have h2 := hg (copiesC g t e c).2 (copiesC g t e c).1
    rw [copiesC]
    have : (t + 1) * s = t * s + s := by rw [Nat.add_mul, Nat.one_mul]
    omega
theorem repC_le {g : Nat → List Stp → List Stp × Nat} {s : Nat} (hg : ∀ n c, (g n c).1.length ≤ c.length + s) (a b : Int) (hl : 0 ≤ a ∧ a ≤ 20) (hm : -1 ≤ b ∧ b ≤ 20) (hlm : b = -1 ∨ a ≤ b) (n : Nat) (c : List Stp) : (repC g a b n c).1.length ≤ c.length + (cop a b).toNat * (s + 1) := by
  unfold repC
  by_cases hb : b = -1
  · rw [if_pos hb]
    have h1 := copiesC_le hg (loopC g n c).2 (loopC g n c).1 a.toNat
    have h2 := loopC_le hg n c
    have h3 : (cop a b).toNat = a.toNat + 1 := by unfold cop; rw [if_pos hb]; split <;> omega
    rw [h3, Nat.add_mul, Nat.one_mul]
    have h4 : a.toNat * s ≤ a.toNat * (s + 1) := Nat.mul_le_mul_left _ (by omega)
    omega
  · rw [if_neg hb]
    have h1 := copiesC_le hg (forksC g n (b - a).toNat n c).2 (forksC g n (b - a).toNat n c).1 a.toNat
    have h2 := forksC_le hg n n c (b - a).toNat
    have h3 : b.toNat ≤ (cop a b).toNat := by unfold cop; rw [if_neg hb]; split <;> omega
    have h4 : a.toNat * s ≤ a.toNat * (s + 1) := Nat.mul_le_mul_left _ (by omega)
    have h5 : (b - a).toNat * (s + 1) + a.toNat * (s + 1) = b.toNat * (s + 1) := by rw [← Nat.add_mul]; congr 1; omega
    have h6 : b.toNat * (s + 1) ≤ (cop a b).toNat * (s + 1) := Nat.mul_le_mul_right _ h3
    omega
theorem rowGo_sum (l : List Int) : ∀ n, 0 ≤ n → (∀ x ∈ l, 0 ≤ x) → rowGo l n ≤ 200 → rowGo l n = n + sumSz l := by
  induction l with
  | nil => intro n _ _ _; simp [rowGo, sumSz]
  | cons x r ih =>
    intro n h0 hx h
    rw [rowGo, sumSz] at *
    have hx0 := hx x (by simp)
    have hr : ∀ y ∈ r, 0 ≤ y := fun y hy => hx y (by simp [hy])
    by_cases hb : 201 < n + x
    · rw [if_pos hb] at h
      have : ∀ (r : List Int) m, (∀ y ∈ r, 0 ≤ y) → 201 ≤ m → 201 ≤ rowGo r m := by
        intro r
        induction r with
        | nil => intro m _ h; exact h
        | cons y q ih => intro m hy h; rw [rowGo]; exact ih _ (fun z hz => hy z (by simp [hz])) (by have := hy y (by simp); split <;> omega)
      have := this r 201 hr (by omega)
      omega
    · rw [if_neg hb] at h ⊢
      rw [ih _ (by omega) hr h]
      omega
theorem sumSz_le : ∀ (q : List Int), (∀ y ∈ q, 0 ≤ y) → 0 ≤ sumSz q ∧ ∀ y ∈ q, y ≤ sumSz q
  | [], _ => ⟨by simp [sumSz], fun y hy => by simp at hy⟩
  | z :: q, h => by
    obtain ⟨h1, h2⟩ := sumSz_le q (fun y hy => h y (by simp [hy]))
    have hz := h z (by simp)
    rw [sumSz]
    refine ⟨by omega, fun y hy => ?_⟩
    rcases List.mem_cons.1 hy with rfl | hy
    · omega
    · have := h2 y hy; omega
def StepsLe (H : Fins) (d : Nat) : Prop := ∀ cs (it : It), ItemOk H d cs it → it.2 ≤ 200 → 1 ≤ it.2 ∧ ∀ n c, ((itemC it.3 n c).1.length : Int) ≤ c.length + (2 * it.2 - 1)
theorem rows_le {H : Fins} {d : Nat} (ih : StepsLe H d) : ∀ its : List It, (∀ i (h : i < its.length), ∃ c, ItemOk H d c its[i]) → (∀ x ∈ its.map (·.2), x ≤ 200) → ∀ n c, ((rowC (its.map (·.3)) n c).1.length : Int) ≤ c.length + 2 * sumSz (its.map (·.2))
  | [], _, _, n, c => by simp [rowC, sumSz]
  | x :: r, h1, h2, n, c => by
    simp only [List.map_cons, rowC, sumSz]
    have hr := rows_le ih r (fun i hi => by have := h1 (i + 1) (by simp; omega); simpa using this) (fun y hy => h2 y (by rw [List.map_cons]; exact List.mem_cons_of_mem _ hy)) n c
    obtain ⟨cc, hx⟩ := h1 0 (by simp)
    have hx2 := (ih cc x hx (h2 x.2 (by simp))).2 (rowC (r.map (·.3)) n c).2 (rowC (r.map (·.3)) n c).1
    omega
theorem rowOk {H : Fins} {d : Nat} {ra : Option Addr} {rn : Nat} {its : List It} (hR : RowFin (ItemOk H d) H ra rn its) : ∀ i (h : i < its.length), ∃ c, ItemOk H d c its[i] := by
  intro i hi
  obtain ⟨h1, h2, h3⟩ := hR
  rcases h3 with h3 | ⟨g, arr, _, _, hP⟩
  · omega
  · exact ⟨_, hP i hi⟩
theorem row_steps' {H : Fins} {d : Nat} (ih : StepsLe H d) {ra : Option Addr} {rn : Nat} {its : List It} (hR : RowFin (ItemOk H d) H ra rn its) (hs : rowSz (its.map (·.2)) ≤ 200) : 1 ≤ rowSz (its.map (·.2)) ∧ ∀ n c, ((rowC (its.map (·.3)) n c).1.length : Int) ≤ c.length + 2 * (rowSz (its.map (·.2)) - 1) := by
  have hpos : ∀ y ∈ its.map (·.2), 0 ≤ y := fun y hy => by
    obtain ⟨z, hz, rfl⟩ := List.mem_map.1 hy
    obtain ⟨i, hi, rfl⟩ := List.getElem_of_mem hz
    obtain ⟨c, hc⟩ := rowOk hR i hi
    exact hc.bd.1
  have hsum := rowGo_sum (its.map (fun x : It => x.2)) 1 (by omega) hpos hs
  obtain ⟨h1, h2⟩ := sumSz_le _ hpos
  have e : rowSz (its.map (·.2)) = 1 + sumSz (its.map (·.2)) := hsum
  rw [e] at hs ⊢
  refine ⟨by omega, fun n c => ?_⟩
  have := rows_le ih its (rowOk hR) (fun y hy => by have := h2 y hy; omega) n c
  omega
/-- the steps of an item, by its size -/
theorem item_steps (H : Fins) : ∀ d, StepsLe H d
  | 0 => fun _ _ h _ => h.elim
  | d + 1 => by
    intro cs it hok hsz
    have ih := item_steps H d
    obtain ⟨a, num, least, most, ra, rn, rc, rfl, hk0, hk1, _, _, hcase⟩ := hok
    obtain ⟨kd, sz, tr⟩ := it
    simp only at *
    rcases hcase with ⟨rfl, its, hR, rfl, n, _, rfl⟩ | ⟨rfl, hl0, hl1, hm0, hm1, x, hR, rfl, rfl, hlm⟩ | ⟨hn4, hn5, rfl, hp⟩
    · obtain ⟨h1, h2⟩ := row_steps' ih hR (by omega)
      refine ⟨by omega, fun n c => ?_⟩
      simp only [itemC]
      have := h2 n c
      omega
    · obtain ⟨c, hx⟩ := rowOk hR 0 (by simp)
      simp only [List.getElem_cons_zero] at hx
      have hcb := cop_bd least most ⟨hl0, hl1⟩ ⟨hm0, hm1⟩
      have hx0 := hx.bd.1
      unfold repSz at hsz ⊢
      by_cases hb : 201 < 1 + cop least most * x.2
      · rw [if_pos hb] at hsz; omega
      · rw [if_neg hb] at hsz ⊢
        have hxle : x.2 ≤ cop least most * x.2 := by
          have := Int.mul_le_mul_of_nonneg_right hcb.1 hx0
          omega
        obtain ⟨i1, i2⟩ := ih c x hx (by omega)
        refine ⟨by omega, fun n c => ?_⟩
        simp only [itemC]
        have hg : ∀ n c, ((fun n c => itemC x.3 n c) n c).1.length ≤ c.length + (2 * x.2 - 1).toNat := fun n c => by
          have := i2 n c
          show (itemC x.3 n c).1.length ≤ _
          omega
        have h1 := repC_le hg least most ⟨hl0, hl1⟩ ⟨hm0, hm1⟩ hlm n c
        have h2 : (((cop least most).toNat * ((2 * x.2 - 1).toNat + 1) : Nat) : Int) = 2 * (cop least most * x.2) := by
          rw [Int.natCast_mul, show (((2 * x.2 - 1).toNat + 1 : Nat) : Int) = 2 * x.2 by omega, show ((cop least most).toNat : Int) = cop least most by omega, Int.mul_left_comm]
        have h3 : ((repC (fun n c => itemC x.3 n c) least most n c).1.length : Int) ≤ (c.length : Int) + 2 * (cop least most * x.2) := by
          rw [← h2]
          exact_mod_cast h1
        omega
    · refine ⟨by omega, fun n c => ?_⟩
      rcases hp with ⟨rfl, f, rfl, hf⟩ | ⟨rfl, rfl⟩ | ⟨rfl, rfl⟩ | ⟨rfl, n, _, rfl⟩
      all_goals simp [itemC]
      all_goals omega
/-- the steps of a pattern that is none too big -/
theorem row_steps (H : Fins) (d : Nat) (ra : Option Addr) (rn : Nat) (its : List It) (hR : RowFin (ItemOk H d) H ra rn its) (hs : rowSz (its.map (·.2)) ≤ 200) (n : Nat) (c : List Stp) : (rowC (its.map (·.3)) n c).1.length ≤ c.length + 400 := by
  have := (row_steps' (item_steps H d) hR hs).2 n c
  omega

/-- THE STEPS OF A PATTERN, as Build hands them out: they lie in memory, and nothing of them is old -/
def CodeIn (w0 w : World) (v : Value) (cs : List Stp) : Prop := ∃ css, w.ownsRow w0.heap.size 107 11 v cs.length css.flatten ∧ StpsOk css cs
def BuildOut (w w' : World) (its : List It) (e : Ending) : Prop :=
  Below w.heap.size w w' ∧ ∃ v, e = .returned (.agg #[v, .int .i64 (buildC (its.map (·.3))).2]) ∧ CodeIn w w' v (buildC (its.map (·.3))).1
theorem code0 (w : World) (t : TypeId) : CodeAt (w.alloc (.cells #[.slice none 0 0, .int .i64 0] t)) (w.heap.size + 1) w.heap.size [] :=
  ⟨by omega, by simp, by simp, by simp, ⟨.int .i64 0, by simp⟩, .slice none 0 0, [], by simp, World.ownsRow_nil _ _ _ _, StpsOk.nil⟩

theorem owns_lower {w : World} {base b e size : Nat} {v : Value} {n : Nat} {xs : List Value} (h : w.ownsRow base e size v n xs) (hb : b ≤ base) : w.ownsRow b e size v n xs := by
  refine ⟨h.1, ?_⟩
  rcases h.2 with h2 | ⟨g, cap, cur, h1, h2, h3⟩
  · exact .inl h2
  · exact .inr ⟨g, cap, cur, h1, Nat.le_trans hb h2, h3⟩
theorem code_start (w : World) : CodeAt ((w.alloc (.cells #[.slice none 0 0, .int .i64 0] 51)).alloc (.cells #[.slice none 0 0, .int .i64 0] 51)) (w.heap.size + 2) (w.heap.size + 1) [] := by
  have := code0 (w.alloc (.cells #[.slice none 0 0, .int .i64 0] 51)) 51
  simpa using this
theorem build_fin {w w2 : World} {cs : List Stp} {v ev : Value} (h : CodeAt w2 (w.heap.size + 2) (w.heap.size + 1) cs) (h0 : w2.cell? ⟨w.heap.size + 1, 0, none⟩ = some v) (u0 u1 : Value) :
    CodeIn w (((w2.setCell ⟨w.heap.size + 1, 1, none⟩ ev).setCell ⟨w.heap.size, 0, none⟩ u0).setCell ⟨w.heap.size, 1, none⟩ u1) v cs := by
  obtain ⟨v', css, h1, h2, h3⟩ := h.rows
  rw [h0] at h1
  cases h1
  have hne : ∀ k, v.ownBlock = some k → w.heap.size + 2 ≤ k := fun k hk => (h2.lt k hk).1
  refine ⟨css, owns_lower (base := w.heap.size + 2) ?_ (by omega), h3⟩
  refine ownsRow_setCell_other (ownsRow_setCell_other (ownsRow_setCell_other h2 (fun e => ?_) _) (fun e => ?_) _) (fun e => ?_) _
  all_goals
    have := hne _ e
    simp at this
    try omega

set_option maxHeartbeats 1600000 in
theorem build_any (H : Fins) (d : Nat) (w : World) (ra : Option Addr) (rn rc : Nat) (its : List It) (hF : Fin w H) (hR : RowFin (ItemOk H d) H ra rn its) (hs : rowSz (its.map (·.2)) ≤ 200) :
    Calls Tryd.prog 29 #[.slice ra rn rc] w fun e w' => BuildOut w w' its e := by
  have hst := row_steps H d ra rn its hR hs 0 [.done]
  simp only [List.length_singleton] at hst
  unfold BuildOut buildC
  have Hrow := hd (fun w1 (hF1 : Fin w1 H) (hc1 : CodeAt w1 (w.heap.size + 2) (w.heap.size + 1) [.done]) => crow_any H d (citem_any H d) w1 (w.heap.size + 2) (w.heap.size + 1) [.done] ra rn rc 0 its hF1 (fun g arr hg => by have := hF.lt hg; omega) hc1 hR (by omega))
  generalize rowC (its.map (·.3)) 0 [.done] = z at Hrow hst ⊢
  have HF := hd hF
  clear hF hR hs
  go_enter Tryd.func29, Tryd.ntmps29
  go_wp2_with fail
  have hb0 : Below w.heap.size w ((w.alloc (.cells #[.slice none 0 0, .int .i64 0] 51)).alloc (.cells #[.slice none 0 0, .int .i64 0] 51)) := ((Below.refl _ _).alloc (Nat.le_refl _) _).alloc (by simp) _
  have hT0 : ((w.alloc (.cells #[.slice none 0 0, .int .i64 0] 51)).alloc (.cells #[.slice none 0 0, .int .i64 0] 51)).cell? ⟨w.heap.size, 0, none⟩ = some (.slice none 0 0) ∧ ((w.alloc (.cells #[.slice none 0 0, .int .i64 0] 51)).alloc (.cells #[.slice none 0 0, .int .i64 0] 51)).cell? ⟨w.heap.size, 1, none⟩ = some (.int .i64 0) ∧ ((w.alloc (.cells #[.slice none 0 0, .int .i64 0] 51)).alloc (.cells #[.slice none 0 0, .int .i64 0] 51)).frozen? ⟨w.heap.size, 0, none⟩ = false ∧ ((w.alloc (.cells #[.slice none 0 0, .int .i64 0] 51)).alloc (.cells #[.slice none 0 0, .int .i64 0] 51)).frozen? ⟨w.heap.size, 1, none⟩ = false := by
    refine ⟨?_, ?_, ?_, ?_⟩
    · rw [World.cell?_alloc_lt _ _ _ (by simp)]; simp
    · rw [World.cell?_alloc_lt _ _ _ (by simp)]; simp
    · rw [World.frozen?_alloc_old _ _ _ (by simp)]; simp
    · rw [World.frozen?_alloc_old _ _ _ (by simp)]; simp
  have hc0 := code_start w
  generalize (w.alloc (.cells #[.slice none 0 0, .int .i64 0] 51)).alloc (.cells #[.slice none 0 0, .int .i64 0] 51) = W0 at hb0 hT0 hc0 ⊢
  refine (put_c hc0 (by simp) 0 0 0 0 0 0 0 0 0 0 0 .done rfl).mono ?_
  rintro e w1 ⟨rfl, hc1, hb1⟩
  simp only [List.nil_append, List.length_nil] at hc1 ⊢
  have hb01 := hb0.trans (hb1.mono (by omega))
  have Hcall := hd (Hrow.out w1 (HF.out.below (fun g arr hg => HF.out.lt hg) hb01) hc1)
  have HT := hd hT0
  have Hb1 := hd hb1
  have Hb01 := hd hb01
  clear hc0 hb0 hb1 hc1 hT0 hb01
  go_wp2_with fail
  refine Hcall.out.mono ?_
  rintro e w2 ⟨rfl, hc2, hb2⟩
  obtain ⟨u1, hu1⟩ := hc2.c1
  have f1 := hc2.f1
  obtain ⟨v, css, h4, hown, hcs⟩ := hc2.rows
  obtain ⟨ao, cp, rfl⟩ := owns_shape hown
  obtain ⟨t0, t1, q0, q1⟩ := HT.out
  have x0 : w2.cell? ⟨w.heap.size, 0, none⟩ = some (.slice none 0 0) := (hb2.cell (by simp)).trans ((Hb1.out.cell (by simp)).trans t0)
  have x1 : w2.cell? ⟨w.heap.size, 1, none⟩ = some (.int .i64 0) := (hb2.cell (by simp)).trans ((Hb1.out.cell (by simp)).trans t1)
  have y0 : w2.frozen? ⟨w.heap.size, 0, none⟩ = false := (hb2.frozen (by simp)).trans ((Hb1.out.frozen (by simp)).trans q0)
  have y1 : w2.frozen? ⟨w.heap.size, 1, none⟩ = false := (hb2.frozen (by simp)).trans ((Hb1.out.frozen (by simp)).trans q1)
  have HC2 := hd hc2
  have Hb2 := hd (Hb01.out.trans (hb2.mono (by omega)))
  clear hc2 hb2 hown hcs t0 t1 q0 q1
  go_wp2
  refine bodyPost_ret (v := .agg #[.slice ao z.1.length cp, .int .i64 z.2]) (by simp [results, Tryd.results29, go_sem, x0, x1]) rfl ⟨?_, _, rfl, ?_⟩
  · exact ((Hb2.out.setCell (by simp) _).setCell (Nat.le_refl _) _).setCell (Nat.le_refl _) _
  · exact build_fin HC2.out h4 _ _
end Go.Proofs.YtknckgibfbboaaaDoor
