import Derived.Test.YtldiemjlpnachaaDoorCod3
namespace Go.Proofs.YtldiemjlpnachaaDoor
open Go.RowKit

set_option maxHeartbeats 3200000 in
theorem citem_step {rf : List Nat} {vr : Value} (hrl : rf.length ≤ 2) (H : Fins) (dp : Nat) (ih : ItemBuilt rf vr H dp) (hRB : RepBuilt rf vr H (dp + 1)) : ItemBuilt rf vr H (dp + 1) := by
  intro w base C d cs g o cells it next hF hHC hc hgC hcs hok hbk hsz hdsz hlen
  have hok0 := hok
  have hcs0 := hcs
  obtain ⟨a, num, least, most, ra, rn, rc, rfl, hk0, hk1, _, _, hcase⟩ := hok
  have h0 : w.cell? ⟨g, o, none⟩ = some (.int .i64 it.1) := hcs 0 _ rfl
  have h9 : w.cell? ⟨g, o + 9, none⟩ = some (.int .i64 num) := hcs 9 _ rfl
  have h12 : w.cell? ⟨g, o + 12, none⟩ = some (.slice ra rn rc) := hcs 12 _ rfl
  obtain ⟨kd, sz, tr⟩ := it
  simp only at *
  have hcn : cs.length ≤ 1000 := Nat.le_trans (itemD_len rf tr d next cs) hlen
  rcases hcase with ⟨rfl, its, hR, hsx, n, rfl, rfl⟩ | ⟨rfl, hl0, hl1, hm0, hm1, x, hR, _, rfl, _⟩ | ⟨hn4, hn5, _, hp⟩
  · have hrs := row_sz hR (by omega)
    simp only [bks] at hbk
    have Hc := hd (cgroup_any hrl H dp ih w base C d cs g o n ra rn rc next its hF hHC hc hgC h9 h12 hR hbk (fun x hx => by have := hrs.2.2 x hx; omega) hlen)
    clear ih hF hcs hcs0 hok0 hR h9 h12 hc hHC hlen hbk hrs hsx hRB
    obtain ⟨ll, ee, hre⟩ : ∃ ll ee, itemD rf (.grp n (its.map (·.3))) d next cs = (ll, ee) := ⟨_, _, rfl⟩
    rw [hre] at Hc ⊢
    simp only at Hc ⊢
    clear hre
    go_enter Tryd.func70, Tryd.ntmps70
    go_wp2_with (go_at_call 87; refine Hc.out.mono ?_; rintro e w' ⟨rfl, hc2, hb2⟩)
    go_ret
    exact ⟨rfl, hc2, hb2⟩
  · have Hc := hd (hRB w base C d cs g o _ _ next hF hHC hc hgC hcs0 hok0 rfl hbk hsz hdsz hlen)
    clear ih hF hcs hcs0 hok0 hR h9 h12 hc hHC hlen hbk hRB
    simp only at Hc
    obtain ⟨ll, ee, hre⟩ : ∃ ll ee, itemD rf (.rep least most x.3) d next cs = (ll, ee) := ⟨_, _, rfl⟩
    rw [hre] at Hc ⊢
    simp only at Hc ⊢
    clear hre
    go_enter Tryd.func70, Tryd.ntmps70
    go_wp2_with (go_at_call 88; refine Hc.out.mono ?_; rintro e w' ⟨rfl, hc2, hb2⟩)
    go_ret
    exact ⟨rfl, hc2, hb2⟩
  · rcases hp with ⟨rfl, f, rfl, hf⟩ | ⟨rfl, rfl⟩ | ⟨rfl, rfl⟩ | ⟨rfl, n, rfl, rfl⟩
    · have s1 : w.cell? ⟨g, o + 1, none⟩ = some (.int .u32 (a 0)) := hcs 1 _ rfl
      have s2 : w.cell? ⟨g, o + 2, none⟩ = some (.int .u32 (a 1)) := hcs 2 _ rfl
      have s3 : w.cell? ⟨g, o + 3, none⟩ = some (.int .u32 (a 2)) := hcs 3 _ rfl
      have s4 : w.cell? ⟨g, o + 4, none⟩ = some (.int .u32 (a 3)) := hcs 4 _ rfl
      have s5 : w.cell? ⟨g, o + 5, none⟩ = some (.int .u32 (a 4)) := hcs 5 _ rfl
      have s6 : w.cell? ⟨g, o + 6, none⟩ = some (.int .u32 (a 5)) := hcs 6 _ rfl
      have s7 : w.cell? ⟨g, o + 7, none⟩ = some (.int .u32 (a 6)) := hcs 7 _ rfl
      have s8 : w.cell? ⟨g, o + 8, none⟩ = some (.int .u32 (a 7)) := hcs 8 _ rfl
      have Hc := hd (put_c hc hcn 1 (a 0) (a 1) (a 2) (a 3) (a 4) (a 5) (a 6) (a 7) 0 next 0 (.one f next) (fun _ _ => ⟨a, rfl, hf⟩))
      simp only [itemD]
      clear ih hF hcs hcs0 hok0 h9 h12 hc hHC hlen hf hRB hbk
      go_enter Tryd.func70, Tryd.ntmps70
      go_wp2_with (go_at_call 47; refine Hc.out.mono ?_; rintro e w' ⟨rfl, hc2, hb2⟩)
      go_ret
      exact ⟨rfl, hc2, hb2⟩
    · have Hc := hd (put_c hc hcn 2 0 0 0 0 0 0 0 0 0 next 0 (.beg next) (fun _ _ => rfl))
      simp only [itemD]
      clear ih hF hcs hcs0 hok0 h9 h12 hc hHC hlen hRB hbk
      go_enter Tryd.func70, Tryd.ntmps70
      go_wp2_with (go_at_call 47; refine Hc.out.mono ?_; rintro e w' ⟨rfl, hc2, hb2⟩)
      go_ret
      exact ⟨rfl, hc2, hb2⟩
    · have Hc := hd (put_c hc hcn 3 0 0 0 0 0 0 0 0 0 next 0 (.fin next) (fun _ _ => rfl))
      simp only [itemD]
      clear ih hF hcs hcs0 hok0 h9 h12 hc hHC hlen hRB hbk
      go_enter Tryd.func70, Tryd.ntmps70
      go_wp2_with (go_at_call 47; refine Hc.out.mono ?_; rintro e w' ⟨rfl, hc2, hb2⟩)
      go_ret
      exact ⟨rfl, hc2, hb2⟩
    · simp only [bks] at hbk
      have Hslot := hd (slot_any (n := n) hc.c4 hc.rf hrl _ rfl)
      have es : slotV rf n = ((rf.idxOf n : Nat) : Int) := by unfold slotV; rw [if_pos hbk]
      rw [es] at Hslot
      simp only [itemD]
      generalize rf.idxOf n = sl at *
      have Hc := hd (put_c hc hcn 7 0 0 0 0 0 0 0 0 sl next 0 (.bck sl next) (fun _ _ => rfl))
      clear ih hF hcs hcs0 hok0 h12 hc hHC hlen hRB hbk es
      go_enter Tryd.func70, Tryd.ntmps70
      go_wp2_with fail
      refine Hslot.out.mono ?_
      rintro e w' ⟨rfl, hww⟩
      subst w'
      go_wp2_with fail
      refine Hc.out.mono ?_
      rintro e w' ⟨rfl, hc2, hb2⟩
      go_wp2
      go_ret
      exact ⟨rfl, hc2, hb2⟩
theorem cboth {rf : List Nat} {vr : Value} (hrl : rf.length ≤ 2) (H : Fins) : ∀ dp, ItemBuilt rf vr H dp ∧ RepBuilt rf vr H dp
  | 0 => ⟨fun _ _ _ _ _ _ _ _ _ _ _ _ _ _ _ h => h.elim, fun _ _ _ _ _ _ _ _ _ _ _ _ _ _ _ h => h.elim⟩
  | dp + 1 => by
    obtain ⟨h1, h2⟩ := cboth hrl H dp
    have h3 := crep_step H dp h1 h2
    exact ⟨citem_step hrl H dp h1 h3, h3⟩

/-- how many steps there are at most -/
theorem beyD_le {g : Lay} {s : Nat} (hg : ∀ d n c, (g d n c).1.length ≤ c.length + s) (p : Bool) (d n : Nat) (c : List Sd) : (beyD p g d n c).1.length ≤ c.length + (s + 1) := by
  unfold beyD
  split
  · have := hg d n c; omega
  · have := hg (d + 1) c.length (c ++ [(.gain n, d + 1)])
    simp only [List.length_append, List.length_singleton] at this
    omega
theorem loopD_le {g : Lay} {s : Nat} (hg : ∀ d n c, (g d n c).1.length ≤ c.length + s) (d n : Nat) (c : List Sd) : (loopD g d n c).1.length ≤ c.length + (s + 1) := by
  unfold loopD
  have := hg d c.length (c ++ [(.fork 0 n, d)])
  simp only [List.length_set, List.length_append, List.length_singleton] at this ⊢
  omega
theorem forksD_le {g : Lay} {s : Nat} (hg : ∀ d n c, (g d n c).1.length ≤ c.length + s) (d n e : Nat) (c : List Sd) : ∀ t, (forksD g d n t e c).1.length ≤ c.length + t * (s + 1)
  | 0 => by simp [forksD]
  | t + 1 => by
    have h1 := forksD_le hg d n e c t
    have h2 := hg d (forksD g d n t e c).2 (forksD g d n t e c).1
    rw [forksD]
    simp only [List.length_append, List.length_singleton]
    have : (t + 1) * (s + 1) = t * (s + 1) + (s + 1) := by rw [Nat.add_mul, Nat.one_mul]
    omega
theorem copiesD_le {g : Lay} {s : Nat} (hg : ∀ d n c, (g d n c).1.length ≤ c.length + s) (d e : Nat) (c : List Sd) : ∀ t, (copiesD g d t e c).1.length ≤ c.length + t * s
  | 0 => by simp [copiesD]
  | t + 1 => by
    have h1 := copiesD_le hg d e c t
    have h2 := hg d (copiesD g d t e c).2 (copiesD g d t e c).1
    rw [copiesD]
    have : (t + 1) * s = t * s + s := by rw [Nat.add_mul, Nat.one_mul]
    omega
theorem repD_le {g : Lay} {s : Nat} (hg : ∀ d n c, (g d n c).1.length ≤ c.length + s) (p : Bool) (a b : Int) (hl : 0 ≤ a ∧ a ≤ 20) (hm : -1 ≤ b ∧ b ≤ 20) (hlm : b = -1 ∨ a ≤ b) (d n : Nat) (c : List Sd) : (repD g (beyD p g) a b d n c).1.length ≤ c.length + (cop a b).toNat * (s + 2) := by
  have hb' := beyD_le hg p
  unfold repD
  by_cases hb : b = -1
  · rw [if_pos hb]
    have h1 := copiesD_le hg d (loopD (beyD p g) d n c).2 (loopD (beyD p g) d n c).1 a.toNat
    have h2 := loopD_le hb' d n c
    have h3 : (cop a b).toNat = a.toNat + 1 := by unfold cop; rw [if_pos hb]; split <;> omega
    rw [h3, Nat.add_mul, Nat.one_mul]
    have h4 : a.toNat * s ≤ a.toNat * (s + 2) := Nat.mul_le_mul_left _ (by omega)
    omega
  · rw [if_neg hb]
    have h1 := copiesD_le hg d (forksD (beyD p g) d n (b - a).toNat n c).2 (forksD (beyD p g) d n (b - a).toNat n c).1 a.toNat
    have h2 := forksD_le hb' d n n c (b - a).toNat
    have h3 : b.toNat ≤ (cop a b).toNat := by unfold cop; rw [if_neg hb]; split <;> omega
    have h4 : a.toNat * s ≤ a.toNat * (s + 2) := Nat.mul_le_mul_left _ (by omega)
    have h5 : (b - a).toNat * (s + 2) + a.toNat * (s + 2) = b.toNat * (s + 2) := by rw [← Nat.add_mul]; congr 1; omega
    have h6 : b.toNat * (s + 2) ≤ (cop a b).toNat * (s + 2) := Nat.mul_le_mul_right _ h3
    have h7 : s + 1 + 1 = s + 2 := rfl
    rw [h7] at h2
    omega
def StepsLe (rf : List Nat) (H : Fins) (dp : Nat) : Prop := ∀ cs (it : It), ItemOk H dp cs it → it.2 ≤ 200 → 1 ≤ it.2 ∧ ∀ d n c, ((itemD rf it.3 d n c).1.length : Int) ≤ c.length + (3 * it.2 - 2)
theorem rows_le {rf : List Nat} {H : Fins} {dp : Nat} (ih : StepsLe rf H dp) : ∀ its : List It, (∀ i (h : i < its.length), ∃ c, ItemOk H dp c its[i]) → (∀ x ∈ its.map (·.2), x ≤ 200) → ∀ d n c, ((rowD rf (its.map (·.3)) d n c).1.length : Int) ≤ c.length + 3 * sumSz (its.map (·.2))
  | [], _, _, d, n, c => by simp [rowD, sumSz]
  | x :: r, h1, h2, d, n, c => by
    simp only [List.map_cons, rowD, sumSz]
    have hr := rows_le ih r (fun i hi => by have := h1 (i + 1) (by simp; omega); simpa using this) (fun y hy => h2 y (by rw [List.map_cons]; exact List.mem_cons_of_mem _ hy)) d n c
    obtain ⟨cc, hx⟩ := h1 0 (by simp)
    have hx2 := (ih cc x hx (h2 x.2 (by simp))).2 d (rowD rf (r.map (·.3)) d n c).2 (rowD rf (r.map (·.3)) d n c).1
    omega
theorem row_steps' {rf : List Nat} {H : Fins} {dp : Nat} (ih : StepsLe rf H dp) {ra : Option Addr} {rn : Nat} {its : List It} (hR : RowFin (ItemOk H dp) H ra rn its) (hs : rowSz (its.map (·.2)) ≤ 200) : 1 ≤ rowSz (its.map (·.2)) ∧ ∀ d n c, ((rowD rf (its.map (·.3)) d n c).1.length : Int) ≤ c.length + 3 * (rowSz (its.map (·.2)) - 1) := by
  obtain ⟨e, h1, h2⟩ := row_sz hR hs
  rw [e] at hs ⊢
  refine ⟨by omega, fun d n c => ?_⟩
  have := rows_le ih its (rowOk hR) (fun y hy => by obtain ⟨z, hz, rfl⟩ := List.mem_map.1 hy; have := h2 z hz; omega) d n c
  omega
/-- the steps of an item, by its size -/
theorem item_steps (rf : List Nat) (H : Fins) : ∀ dp, StepsLe rf H dp
  | 0 => fun _ _ h _ => h.elim
  | dp + 1 => by
    intro cs it hok hsz
    have ih := item_steps rf H dp
    obtain ⟨a, num, least, most, ra, rn, rc, rfl, hk0, hk1, _, _, hcase⟩ := hok
    obtain ⟨kd, sz, tr⟩ := it
    simp only at *
    rcases hcase with ⟨rfl, its, hR, rfl, n, _, rfl⟩ | ⟨rfl, hl0, hl1, hm0, hm1, x, hR, rfl, rfl, hlm⟩ | ⟨hn4, hn5, rfl, hp⟩
    · obtain ⟨h1, h2⟩ := row_steps' ih hR (by omega)
      refine ⟨by omega, fun d n2 c => ?_⟩
      simp only [itemD]
      split
      · have := h2 d c.length (c ++ [(.shut (rf.idxOf n) n2, d)])
        simp only [List.length_append, List.length_singleton] at this ⊢
        omega
      · have := h2 d n2 c
        omega
    · obtain ⟨c, hx⟩ := rowOk hR 0 (by simp)
      simp only [List.getElem_cons_zero] at hx
      have hcb := cop_bd least most ⟨hl0, hl1⟩ ⟨hm0, hm1⟩
      have hx0 := hx.bd.1
      unfold repSz at hsz ⊢
      by_cases hb : 201 < 1 + cop least most * x.2
      · rw [if_pos hb] at hsz; omega
      · rw [if_neg hb] at hsz ⊢
        have hxle : x.2 ≤ cop least most * x.2 := by
          have := Int.mul_le_mul_of_nonneg_right hcb.1 hx0
          omega
        obtain ⟨i1, i2⟩ := ih c x hx (by omega)
        refine ⟨by omega, fun d n c => ?_⟩
        simp only [itemD]
        split
        · have := i2 d n c
          omega
        have hg : ∀ d n c, ((fun d n c => itemD rf x.3 d n c) d n c).1.length ≤ c.length + (3 * x.2 - 2).toNat := fun d n c => by
          have := i2 d n c
          show (itemD rf x.3 d n c).1.length ≤ _
          omega
        have h1 := repD_le hg (rf.isEmpty || hasB x.3) least most ⟨hl0, hl1⟩ ⟨hm0, hm1⟩ hlm d n c
        have h2 : (((cop least most).toNat * ((3 * x.2 - 2).toNat + 2) : Nat) : Int) = 3 * (cop least most * x.2) := by
          rw [Int.natCast_mul, show (((3 * x.2 - 2).toNat + 2 : Nat) : Int) = 3 * x.2 by omega, show ((cop least most).toNat : Int) = cop least most by omega, Int.mul_left_comm]
        have h3 : ((repD (fun d n c => itemD rf x.3 d n c) (beyD (rf.isEmpty || hasB x.3) (fun d n c => itemD rf x.3 d n c)) least most d n c).1.length : Int) ≤ (c.length : Int) + 3 * (cop least most * x.2) := by
          rw [← h2]
          exact_mod_cast h1
        omega
    · refine ⟨by omega, fun d n c => ?_⟩
      rcases hp with ⟨rfl, f, rfl, hf⟩ | ⟨rfl, rfl⟩ | ⟨rfl, rfl⟩ | ⟨rfl, n, _, rfl⟩
      all_goals simp [itemD]
/-- the steps of a pattern that is none too big -/
theorem row_steps (rf : List Nat) (H : Fins) (dp : Nat) (ra : Option Addr) (rn : Nat) (its : List It) (hR : RowFin (ItemOk H dp) H ra rn its) (hs : rowSz (its.map (·.2)) ≤ 200) (d n : Nat) (c : List Sd) : (rowD rf (its.map (·.3)) d n c).1.length ≤ c.length + 600 := by
  have := (row_steps' (item_steps rf H dp) hR hs).2 d n c
  omega

/-- THE STEPS OF A PATTERN, as Build hands them out: they lie in memory, and nothing of them is old -/
def CodeIn (w0 w : World) (v : Value) (cs : List Sd) : Prop := (∃ css, w.ownsRow w0.heap.size 119 14 v cs.length css.flatten ∧ SdsOk css cs) ∧ ∀ x ∈ cs, x.2 ≤ 300
def BuildOut (w w' : World) (rf : List Nat) (its : List It) (e : Ending) : Prop :=
  Below w.heap.size w w' ∧ ∃ v, e = .returned (.agg #[v, .int .i64 (buildD rf (its.map (·.3))).2, .int .i64 rf.length, .int .i64 (levs ((buildD rf (its.map (·.3))).1.map Prod.snd))]) ∧ CodeIn w w' v (buildD rf (its.map (·.3))).1
theorem owns_lower {w : World} {base b e size : Nat} {v : Value} {n : Nat} {xs : List Value} (h : w.ownsRow base e size v n xs) (hb : b ≤ base) : w.ownsRow b e size v n xs := by
  refine ⟨h.1, ?_⟩
  rcases h.2 with h2 | ⟨g, cap, cur, h1, h2, h3⟩
  · exact .inl h2
  · exact .inr ⟨g, cap, cur, h1, Nat.le_trans hb h2, h3⟩

theorem frozen_blk {w : World} {g i : Nat} {cur : Array Value} {e : TypeId} (h : w.heap[g]? = some (.cells cur e (0, 0))) : w.frozen? ⟨g, i, none⟩ = false := by simp [World.frozen?, h]
theorem code_start (w : World) (ra fa : Option Addr) (rn rc gr fc : Nat) (rf : List Nat) (hrf : RefsAt w w.heap.size (.slice fa rf.length fc) rf) : CodeAt (((w.alloc (.cells #[.slice ra rn rc, .int .i64 gr, .slice fa rf.length fc] 76)).alloc (.cells #[.slice none 0 0, .int .i64 0, .int .i64 0, .int .i64 0] 63)).alloc (.cells #[.slice none 0 0, .int .i64 0, .int .i64 rf.length, .int .i64 0, .slice fa rf.length fc, .int .i64 0] 111)) (w.heap.size + 3) (w.heap.size + 1 + 1) rf (.slice fa rf.length fc) 0 [] := by
  have hz : ((w.alloc (.cells #[.slice ra rn rc, .int .i64 gr, .slice fa rf.length fc] 76)).alloc (.cells #[.slice none 0 0, .int .i64 0, .int .i64 0, .int .i64 0] 63)).heap.size = w.heap.size + 1 + 1 := by simp
  have cl : ∀ (i : Nat) v, (#[Value.slice none 0 0, .int .i64 0, .int .i64 rf.length, .int .i64 0, .slice fa rf.length fc, .int .i64 0] : Array Value)[i]? = some v → (((w.alloc (.cells #[.slice ra rn rc, .int .i64 gr, .slice fa rf.length fc] 76)).alloc (.cells #[.slice none 0 0, .int .i64 0, .int .i64 0, .int .i64 0] 63)).alloc (.cells #[.slice none 0 0, .int .i64 0, .int .i64 rf.length, .int .i64 0, .slice fa rf.length fc, .int .i64 0] 111)).cell? ⟨w.heap.size + 1 + 1, i, none⟩ = some v := by
    intro i v hv
    have hh := heap_alloc_new ((w.alloc (.cells #[.slice ra rn rc, .int .i64 gr, .slice fa rf.length fc] 76)).alloc (.cells #[.slice none 0 0, .int .i64 0, .int .i64 0, .int .i64 0] 63)) (.cells #[.slice none 0 0, .int .i64 0, .int .i64 rf.length, .int .i64 0, .slice fa rf.length fc, .int .i64 0] 111)
    rw [hz] at hh
    rw [cell_of_row _ _ _ _ _ _ hh]
    exact hv
  have fzz : ∀ i, (((w.alloc (.cells #[.slice ra rn rc, .int .i64 gr, .slice fa rf.length fc] 76)).alloc (.cells #[.slice none 0 0, .int .i64 0, .int .i64 0, .int .i64 0] 63)).alloc (.cells #[.slice none 0 0, .int .i64 0, .int .i64 rf.length, .int .i64 0, .slice fa rf.length fc, .int .i64 0] 111)).frozen? ⟨w.heap.size + 1 + 1, i, none⟩ = false := by
    intro i
    have hh := heap_alloc_new ((w.alloc (.cells #[.slice ra rn rc, .int .i64 gr, .slice fa rf.length fc] 76)).alloc (.cells #[.slice none 0 0, .int .i64 0, .int .i64 0, .int .i64 0] 63)) (.cells #[.slice none 0 0, .int .i64 0, .int .i64 rf.length, .int .i64 0, .slice fa rf.length fc, .int .i64 0] 111)
    rw [hz] at hh
    exact frozen_blk hh
  have hb : Below w.heap.size w (((w.alloc (.cells #[.slice ra rn rc, .int .i64 gr, .slice fa rf.length fc] 76)).alloc (.cells #[.slice none 0 0, .int .i64 0, .int .i64 0, .int .i64 0] 63)).alloc (.cells #[.slice none 0 0, .int .i64 0, .int .i64 rf.length, .int .i64 0, .slice fa rf.length fc, .int .i64 0] 111)) := (((Below.refl _ _).alloc (Nat.le_refl _) _).alloc (by simp) _).alloc (by simp; omega) _
  refine ⟨by omega, by simp, fun i _ => fzz i, ⟨_, cl 1 _ rfl⟩, cl 2 _ rfl, cl 3 _ rfl, cl 4 _ rfl, cl 5 _ rfl, ?_, by omega, fun x hx => by simp at hx, .slice none 0 0, [], cl 0 _ rfl, World.ownsRow_nil _ _ _ _, SdsOk.nil⟩
  obtain ⟨ao, cp, e, h⟩ := hrf.below hb
  exact ⟨ao, cp, e, fun i hi => by obtain ⟨g, h1, h2, h3⟩ := h i hi; exact ⟨g, h1, by omega, h3⟩⟩
set_option maxHeartbeats 1600000 in
theorem build_any (H : Fins) (dp : Nat) (w : World) (ra : Option Addr) (rn rc gr : Nat) (fa : Option Addr) (fc : Nat) (rf : List Nat) (its : List It) (hF : Fin w H) (hR : RowFin (ItemOk H dp) H ra rn its) (hs : rowSz (its.map (·.2)) ≤ 200) (hbk : bkss rf (its.map (·.3))) (hrl : rf.length ≤ 2) (hrf : RefsAt w w.heap.size (.slice fa rf.length fc) rf) :
    Calls Tryd.prog 36 #[.agg #[.slice ra rn rc, .int .i64 gr, .slice fa rf.length fc]] w fun e w' => BuildOut w w' rf its e := by
  have hst := row_steps rf H dp ra rn its hR hs 0 0 [(.done, 0)]
  simp only [List.length_singleton] at hst
  unfold BuildOut buildD
  have Hrow := hd (fun w1 (hF1 : Fin w1 H) (hc1 : CodeAt w1 (w.heap.size + 3) (w.heap.size + 1 + 1) rf (.slice fa rf.length fc) 0 [(.done, 0)]) => crow_any H dp (cboth hrl H dp).1 w1 (w.heap.size + 3) (w.heap.size + 1 + 1) 0 [(.done, 0)] ra rn rc 0 its hF1 (fun g arr hg => by have := hF.lt hg; omega) hc1 hR hbk (fun x hx => by have := row_sz hR hs; have := this.2.2 x hx; omega) (by omega))
  generalize rowD rf (its.map (·.3)) 0 0 [(.done, 0)] = z at Hrow hst ⊢
  have HF := hd hF
  have hc0 := code_start w ra fa rn rc gr fc rf hrf
  clear hF hR hs hbk hrf
  go_enter Tryd.func36, Tryd.ntmps36
  go_wp2_with fail
  have hb0 : Below w.heap.size w (((w.alloc (.cells #[.slice ra rn rc, .int .i64 gr, .slice fa rf.length fc] 76)).alloc (.cells #[.slice none 0 0, .int .i64 0, .int .i64 0, .int .i64 0] 63)).alloc (.cells #[.slice none 0 0, .int .i64 0, .int .i64 rf.length, .int .i64 0, .slice fa rf.length fc, .int .i64 0] 111)) := (((Below.refl _ _).alloc (Nat.le_refl _) _).alloc (by simp) _).alloc (by simp; omega) _
  have hT0 : (((w.alloc (.cells #[.slice ra rn rc, .int .i64 gr, .slice fa rf.length fc] 76)).alloc (.cells #[.slice none 0 0, .int .i64 0, .int .i64 0, .int .i64 0] 63)).alloc (.cells #[.slice none 0 0, .int .i64 0, .int .i64 rf.length, .int .i64 0, .slice fa rf.length fc, .int .i64 0] 111)).cell? ⟨w.heap.size, 0, none⟩ = some (.slice ra rn rc) := by
    rw [World.cell?_alloc_lt _ _ _ (by simp; omega), World.cell?_alloc_lt _ _ _ (by simp)]; simp
  have hT1 : ∀ i, i < 4 → (∃ u, (((w.alloc (.cells #[.slice ra rn rc, .int .i64 gr, .slice fa rf.length fc] 76)).alloc (.cells #[.slice none 0 0, .int .i64 0, .int .i64 0, .int .i64 0] 63)).alloc (.cells #[.slice none 0 0, .int .i64 0, .int .i64 rf.length, .int .i64 0, .slice fa rf.length fc, .int .i64 0] 111)).cell? ⟨w.heap.size + 1, i, none⟩ = some u) ∧ (((w.alloc (.cells #[.slice ra rn rc, .int .i64 gr, .slice fa rf.length fc] 76)).alloc (.cells #[.slice none 0 0, .int .i64 0, .int .i64 0, .int .i64 0] 63)).alloc (.cells #[.slice none 0 0, .int .i64 0, .int .i64 rf.length, .int .i64 0, .slice fa rf.length fc, .int .i64 0] 111)).frozen? ⟨w.heap.size + 1, i, none⟩ = false := by
    intro i hi
    have hh := heap_alloc_new (w.alloc (.cells #[.slice ra rn rc, .int .i64 gr, .slice fa rf.length fc] 76)) (.cells #[.slice none 0 0, .int .i64 0, .int .i64 0, .int .i64 0] 63)
    rw [show (w.alloc (.cells #[.slice ra rn rc, .int .i64 gr, .slice fa rf.length fc] 76)).heap.size = w.heap.size + 1 by simp] at hh
    have hh2 : (((w.alloc (.cells #[.slice ra rn rc, .int .i64 gr, .slice fa rf.length fc] 76)).alloc (.cells #[.slice none 0 0, .int .i64 0, .int .i64 0, .int .i64 0] 63)).alloc (.cells #[.slice none 0 0, .int .i64 0, .int .i64 rf.length, .int .i64 0, .slice fa rf.length fc, .int .i64 0] 111)).heap[w.heap.size + 1]? = _ := (Below.heap_alloc _ _ _ (by simp)).trans hh
    refine ⟨?_, frozen_blk hh2⟩
    rw [cell_of_row _ _ _ _ _ _ hh2]
    rcases (show i = 0 ∨ i = 1 ∨ i = 2 ∨ i = 3 by omega) with rfl | rfl | rfl | rfl <;> exact ⟨_, rfl⟩
  generalize ((w.alloc (.cells #[.slice ra rn rc, .int .i64 gr, .slice fa rf.length fc] 76)).alloc (.cells #[.slice none 0 0, .int .i64 0, .int .i64 0, .int .i64 0] 63)).alloc (.cells #[.slice none 0 0, .int .i64 0, .int .i64 rf.length, .int .i64 0, .slice fa rf.length fc, .int .i64 0] 111) = W0 at hb0 hT0 hT1 hc0 ⊢
  refine (put_c hc0 (by simp) 0 0 0 0 0 0 0 0 0 0 0 0 .done (fun _ _ => rfl)).mono ?_
  rintro e w1 ⟨rfl, hc1, hb1⟩
  simp only [List.nil_append, List.length_nil] at hc1 ⊢
  have hb01 := hb0.trans (hb1.mono (by omega))
  have Hcall := hd (Hrow.out w1 (HF.out.below (fun g arr hg => HF.out.lt hg) hb01) hc1)
  have x0 : w1.cell? ⟨w.heap.size, 0, none⟩ = some (.slice ra rn rc) := (hb1.cell (by simp; omega)).trans hT0
  have HT := hd hT1
  have Hb1 := hd hb1
  have Hb01 := hd hb01
  clear hc0 hb0 hb1 hc1 hT0 hb01 hT1
  go_wp2_with fail
  refine Hcall.out.mono ?_
  rintro e w2 ⟨rfl, hc2, hb2⟩
  obtain ⟨u1, hu1⟩ := hc2.c1
  have f1 := hc2.fz 1 (by omega)
  have c2 := hc2.c2
  have c3 := hc2.c3
  obtain ⟨v, css, h4, hown, hcs⟩ := hc2.rows
  obtain ⟨ao, cp, rfl⟩ := owns_shape hown
  have tt : ∀ i, i < 4 → (∃ u, w2.cell? ⟨w.heap.size + 1, i, none⟩ = some u) ∧ w2.frozen? ⟨w.heap.size + 1, i, none⟩ = false := fun i hi => by
    obtain ⟨⟨u, hu⟩, hf⟩ := HT.out i hi
    exact ⟨⟨u, (hb2.cell (by simp)).trans ((Hb1.out.cell (by simp)).trans hu)⟩, (hb2.frozen (by simp)).trans ((Hb1.out.frozen (by simp)).trans hf)⟩
  obtain ⟨⟨t0, ht0⟩, q0⟩ := tt 0 (by omega)
  obtain ⟨⟨t1, ht1⟩, q1⟩ := tt 1 (by omega)
  obtain ⟨⟨t2, ht2⟩, q2⟩ := tt 2 (by omega)
  obtain ⟨⟨t3, ht3⟩, q3⟩ := tt 3 (by omega)
  have HC2 := hd hc2
  have Hb2 := hd (Hb01.out.trans (hb2.mono (by omega)))
  have Hown := hd hown
  have Hcs := hd hcs
  have Hdl := hd hc2.dl
  clear hc2 hb2 hown hcs tt x0 Hrow HT Hcall
  go_wp2
  refine bodyPost_ret (v := .agg #[.slice ao z.1.length cp, .int .i64 z.2, .int .i64 rf.length, .int .i64 (levs (z.1.map Prod.snd))]) (by simp [results, Tryd.results36, go_sem, ht0, ht1, ht2, ht3]) rfl ⟨?_, _, rfl, ?_⟩
  · exact ((((Hb2.out.setCell (by simp; omega) _).setCell (by simp) _).setCell (by simp) _).setCell (by simp) _).setCell (by simp) _
  · refine ⟨⟨css, owns_lower (base := w.heap.size + 3) ?_ (by omega), Hcs.out⟩, Hdl.out⟩
    have hne : ∀ k, (Value.slice ao z.1.length cp).ownBlock = some k → w.heap.size + 3 ≤ k := fun k hk => (Hown.out.lt k hk).1
    refine ownsRow_setCell_other (ownsRow_setCell_other (ownsRow_setCell_other (ownsRow_setCell_other (ownsRow_setCell_other Hown.out (fun e => ?_) _) (fun e => ?_) _) (fun e => ?_) _) (fun e => ?_) _) (fun e => ?_) _
    all_goals
      have := hne _ e
      simp at this
      try omega
end Go.Proofs.YtldiemjlpnachaaDoor
