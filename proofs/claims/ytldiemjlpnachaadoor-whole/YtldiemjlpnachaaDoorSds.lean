import Derived.Test.YtldiemjlpnachaaDoorNfa
/- The steps with marks: groups that are referred to, times that must have a byte. Nothing of the program. -/
namespace Go.Proofs.YtldiemjlpnachaaDoor

inductive Sk where
  | done
  | one (f : Nat → Bool) (n : Nat)
  | beg (n : Nat)
  | fin (n : Nat)
  | fork (n o : Nat)
  | opn (s n : Nat)
  | shut (s n : Nat)
  | bck (s n : Nat)
  | gain (n : Nat)
/-- a step, and how many times stand around it that must have a byte -/
abbrev Sd := Sk × Nat
abbrev Lay := Nat → Nat → List Sd → List Sd × Nat
def copiesD (g : Lay) (d : Nat) : Nat → Nat → List Sd → List Sd × Nat
  | 0, e, c => (c, e)
  | k + 1, e, c => g d (copiesD g d k e c).2 (copiesD g d k e c).1
def forksD (g : Lay) (d next : Nat) : Nat → Nat → List Sd → List Sd × Nat
  | 0, e, c => (c, e)
  | k + 1, e, c => ((g d (forksD g d next k e c).2 (forksD g d next k e c).1).1 ++ [(.fork (g d (forksD g d next k e c).2 (forksD g d next k e c).1).2 next, d)], (g d (forksD g d next k e c).2 (forksD g d next k e c).1).1.length)
def loopD (g : Lay) (d next : Nat) (c : List Sd) : List Sd × Nat :=
  ((g d c.length (c ++ [(.fork 0 next, d)])).1.set c.length (.fork (g d c.length (c ++ [(.fork 0 next, d)])).2 next, d), c.length)
def repD (g gb : Lay) (a b : Int) (d next : Nat) (c : List Sd) : List Sd × Nat :=
  if b = -1 then copiesD g d a.toNat (loopD gb d next c).2 (loopD gb d next c).1
  else copiesD g d a.toNat (forksD gb d next (b - a).toNat next c).2 (forksD gb d next (b - a).toNat next c).1
/-- one time beyond the least number -/
def beyD (p : Bool) (g : Lay) : Lay := fun d n c => if p = true then g d n c else g (d + 1) c.length (c ++ [(.gain n, d + 1)])
mutual
/-- it has a byte, whatever it matches -/
def hasB : Tr → Bool
  | .one _ => true
  | .beg => false
  | .fin => false
  | .back _ => false
  | .grp _ r => hasBs r
  | .rep a _ x => decide (0 < a) && hasB x
def hasBs : List Tr → Bool
  | [] => false
  | x :: r => hasB x || hasBs r
end
mutual
def itemD (rf : List Nat) : Tr → Nat → Nat → List Sd → List Sd × Nat
  | .one f, d, n, c => (c ++ [(.one f n, d)], c.length)
  | .beg, d, n, c => (c ++ [(.beg n, d)], c.length)
  | .fin, d, n, c => (c ++ [(.fin n, d)], c.length)
  | .back k, d, n, c => (c ++ [(.bck (rf.idxOf k) n, d)], c.length)
  | .grp k r, d, n, c => if k ∈ rf then ((rowD rf r d c.length (c ++ [(.shut (rf.idxOf k) n, d)])).1 ++ [(.opn (rf.idxOf k) (rowD rf r d c.length (c ++ [(.shut (rf.idxOf k) n, d)])).2, d)], (rowD rf r d c.length (c ++ [(.shut (rf.idxOf k) n, d)])).1.length) else rowD rf r d n c
  | .rep a b x, d, n, c => if (a = 0 ∧ b = -1) ∧ starT x = true then itemD rf x d n c else repD (fun d n c => itemD rf x d n c) (beyD (rf.isEmpty || hasB x) (fun d n c => itemD rf x d n c)) a b d n c
def rowD (rf : List Nat) : List Tr → Nat → Nat → List Sd → List Sd × Nat
  | [], _, n, c => (c, n)
  | x :: r, d, n, c => itemD rf x d (rowD rf r d n c).2 (rowD rf r d n c).1
end
def buildD (rf : List Nat) (r : List Tr) : List Sd × Nat := rowD rf r 0 0 [(.done, 0)]

/-- what was laid ahead stays -/
def Gd (g : Lay) : Prop := ∀ d n c, c.length ≤ (g d n c).1.length ∧ ∀ k, k < c.length → (g d n c).1[k]? = c[k]?
theorem gd_put (x : Nat → Nat → Sk) : Gd (fun d n c => (c ++ [(x d n, d)], c.length)) := fun d n c => ⟨by simp, fun k hk => by simp [List.getElem?_append_left hk]⟩
theorem gd_copies {g : Lay} (hg : Gd g) (d : Nat) : ∀ t e c, c.length ≤ (copiesD g d t e c).1.length ∧ ∀ k, k < c.length → (copiesD g d t e c).1[k]? = c[k]?
  | 0, e, c => ⟨Nat.le_refl _, fun _ _ => rfl⟩
  | t + 1, e, c => by
    obtain ⟨h1, h2⟩ := gd_copies hg d t e c
    obtain ⟨h3, h4⟩ := hg d (copiesD g d t e c).2 (copiesD g d t e c).1
    rw [copiesD]
    exact ⟨by omega, fun k hk => by rw [h4 k (by omega), h2 k hk]⟩
theorem gd_forks {g : Lay} (hg : Gd g) (d next : Nat) : ∀ t e c, c.length ≤ (forksD g d next t e c).1.length ∧ ∀ k, k < c.length → (forksD g d next t e c).1[k]? = c[k]?
  | 0, e, c => ⟨Nat.le_refl _, fun _ _ => rfl⟩
  | t + 1, e, c => by
    obtain ⟨h1, h2⟩ := gd_forks hg d next t e c
    obtain ⟨h3, h4⟩ := hg d (forksD g d next t e c).2 (forksD g d next t e c).1
    rw [forksD]
    refine ⟨by simp only [List.length_append, List.length_singleton]; omega, fun k hk => ?_⟩
    show ((g d (forksD g d next t e c).2 (forksD g d next t e c).1).1 ++ _)[k]? = _
    rw [List.getElem?_append_left (by omega), h4 k (by omega), h2 k hk]
theorem gd_loop {g : Lay} (hg : Gd g) (d next : Nat) (c : List Sd) : c.length < (loopD g d next c).1.length ∧ ∀ k, k < c.length → (loopD g d next c).1[k]? = c[k]? := by
  obtain ⟨h1, h2⟩ := hg d c.length (c ++ [(.fork 0 next, d)])
  unfold loopD
  simp only [List.length_append, List.length_singleton, List.length_set] at h1 h2 ⊢
  refine ⟨by omega, fun k hk => ?_⟩
  rw [List.getElem?_set_ne (by omega), h2 k (by omega), List.getElem?_append_left hk]
theorem gd_bey {g : Lay} (hg : Gd g) (p : Bool) : Gd (beyD p g) := by
  intro d n c
  unfold beyD
  split
  · exact hg d n c
  · obtain ⟨h1, h2⟩ := hg (d + 1) c.length (c ++ [(.gain n, d + 1)])
    simp only [List.length_append, List.length_singleton] at h1 h2
    exact ⟨by omega, fun k hk => by rw [h2 k (by omega), List.getElem?_append_left hk]⟩
theorem gd_rep {g gb : Lay} (hg : Gd g) (hb : Gd gb) (a b : Int) : Gd (repD g gb a b) := by
  intro d n c
  unfold repD
  split
  · obtain ⟨h1, h2⟩ := gd_loop hb d n c
    obtain ⟨h3, h4⟩ := gd_copies hg d a.toNat (loopD gb d n c).2 (loopD gb d n c).1
    exact ⟨by omega, fun k hk => by rw [h4 k (by omega), h2 k hk]⟩
  · obtain ⟨h1, h2⟩ := gd_forks hb d n (b - a).toNat n c
    obtain ⟨h3, h4⟩ := gd_copies hg d a.toNat (forksD gb d n (b - a).toNat n c).2 (forksD gb d n (b - a).toNat n c).1
    exact ⟨by omega, fun k hk => by rw [h4 k (by omega), h2 k hk]⟩
mutual
theorem gd_item (rf : List Nat) : ∀ x : Tr, Gd (fun d n c => itemD rf x d n c)
  | .one f => by intro d n c; simp only [itemD]; exact gd_put (fun _ n => .one f n) d n c
  | .beg => by intro d n c; simp only [itemD]; exact gd_put (fun _ n => .beg n) d n c
  | .fin => by intro d n c; simp only [itemD]; exact gd_put (fun _ n => .fin n) d n c
  | .back k => by intro d n c; simp only [itemD]; exact gd_put (fun _ n => .bck (rf.idxOf k) n) d n c
  | .grp k r => by
    intro d n c
    simp only [itemD]
    split
    · obtain ⟨h1, h2⟩ := gd_row rf r d c.length (c ++ [(.shut (rf.idxOf k) n, d)])
      simp only [List.length_append, List.length_singleton] at h1 h2 ⊢
      refine ⟨by omega, fun j hj => ?_⟩
      rw [List.getElem?_append_left (by omega), h2 j (by omega), List.getElem?_append_left hj]
    · exact gd_row rf r d n c
  | .rep a b x => by
    intro d n c
    simp only [itemD]
    split
    · exact gd_item rf x d n c
    · exact gd_rep (gd_item rf x) (gd_bey (gd_item rf x) _) a b d n c
theorem gd_row (rf : List Nat) : ∀ r : List Tr, Gd (fun d n c => rowD rf r d n c)
  | [] => fun d n c => by simp only [rowD]; exact ⟨Nat.le_refl _, fun _ _ => trivial⟩
  | x :: r => by
    intro d n c
    simp only [rowD]
    obtain ⟨h1, h2⟩ := gd_row rf r d n c
    obtain ⟨h3, h4⟩ := gd_item rf x d (rowD rf r d n c).2 (rowD rf r d n c).1
    simp only at h1 h2 h3 h4
    exact ⟨by omega, fun k hk => by rw [h4 k (by omega), h2 k hk]⟩
end
theorem itemD_len (rf : List Nat) (x : Tr) (d n : Nat) (c : List Sd) : c.length ≤ (itemD rf x d n c).1.length := (gd_item rf x d n c).1
theorem rowD_len (rf : List Nat) (x : List Tr) (d n : Nat) (c : List Sd) : c.length ≤ (rowD rf x d n c).1.length := (gd_row rf x d n c).1

mutual
/-- references are to some groups alone -/
def bks (rf : List Nat) : Tr → Prop
  | .one _ => True
  | .beg => True
  | .fin => True
  | .back n => n ∈ rf
  | .grp _ r => bkss rf r
  | .rep _ _ x => bks rf x
def bkss (rf : List Nat) : List Tr → Prop
  | [] => True
  | x :: r => bks rf x ∧ bkss rf r
end
mutual
theorem bks_mono {rf rf' : List Nat} (h : ∀ n, n ∈ rf → n ∈ rf') : ∀ x : Tr, bks rf x → bks rf' x
  | .one _, _ => by simp only [bks]
  | .beg, _ => by simp only [bks]
  | .fin, _ => by simp only [bks]
  | .back n, hx => by simp only [bks] at hx ⊢; exact h n hx
  | .grp _ r, hx => by simp only [bks] at hx ⊢; exact bkss_mono h r hx
  | .rep _ _ x, hx => by simp only [bks] at hx ⊢; exact bks_mono h x hx
theorem bkss_mono {rf rf' : List Nat} (h : ∀ n, n ∈ rf → n ∈ rf') : ∀ r : List Tr, bkss rf r → bkss rf' r
  | [], _ => by simp only [bkss]
  | x :: r, hx => by simp only [bkss] at hx ⊢; exact ⟨bks_mono h x hx.1, bkss_mono h r hx.2⟩
end
theorem bkss_iff {rf : List Nat} : ∀ {r : List Tr}, bkss rf r ↔ ∀ x ∈ r, bks rf x
  | [] => by simp [bkss]
  | x :: r => by simp [bkss, bkss_iff (r := r)]

/-- the steps of a pattern without references -/
def skOf : Stp → Sk
  | .done => .done
  | .one f n => .one f n
  | .beg n => .beg n
  | .fin n => .fin n
  | .fork n o => .fork n o
def lft (c : List Stp) : List Sd := c.map (fun s => (skOf s, 0))
theorem lft_len (c : List Stp) : (lft c).length = c.length := by simp [lft]
theorem lft_snoc (c : List Stp) (s : Stp) : lft c ++ [(skOf s, 0)] = lft (c ++ [s]) := by simp [lft]
def Same (g : Lay) (h : Nat → List Stp → List Stp × Nat) : Prop := ∀ n c, g 0 n (lft c) = (lft (h n c).1, (h n c).2)
theorem same_copies {g : Lay} {h : Nat → List Stp → List Stp × Nat} (hs : Same g h) : ∀ t e c, copiesD g 0 t e (lft c) = (lft (copiesC h t e c).1, (copiesC h t e c).2)
  | 0, e, c => rfl
  | t + 1, e, c => by rw [copiesD, copiesC, same_copies hs t e c]; exact hs _ _
theorem same_forks {g : Lay} {h : Nat → List Stp → List Stp × Nat} (hs : Same g h) (next : Nat) : ∀ t e c, forksD g 0 next t e (lft c) = (lft (forksC h next t e c).1, (forksC h next t e c).2)
  | 0, e, c => rfl
  | t + 1, e, c => by
    rw [forksD, forksC, same_forks hs next t e c]
    simp only
    rw [hs]
    simp only [lft_len]
    rw [← lft_snoc]
    rfl
theorem same_loop {g : Lay} {h : Nat → List Stp → List Stp × Nat} (hs : Same g h) (next : Nat) (c : List Stp) : loopD g 0 next (lft c) = (lft (loopC h next c).1, (loopC h next c).2) := by
  have e : lft c ++ [(Sk.fork 0 next, 0)] = lft (c ++ [.fork 0 next]) := lft_snoc c (.fork 0 next)
  unfold loopD loopC
  rw [e, lft_len, hs]
  simp only [lft, List.map_set]
  rfl
theorem same_rep {g : Lay} {h : Nat → List Stp → List Stp × Nat} (hs : Same g h) (a b : Int) : Same (repD g (beyD true g) a b) (repC h a b) := by
  intro n c
  have hb : beyD true g = g := by funext d n c; simp [beyD]
  unfold repD repC
  rw [hb]
  split
  · rw [same_loop hs]; exact same_copies hs _ _ _
  · rw [same_forks hs]; exact same_copies hs _ _ _
mutual
theorem same_item : ∀ x : Tr, bks [] x → Same (fun d n c => itemD [] x d n c) (fun n c => itemC x n c)
  | .one f, _ => by intro n c; simp only [itemD, itemC, lft_len]; rw [← lft_snoc]; rfl
  | .beg, _ => by intro n c; simp only [itemD, itemC, lft_len]; rw [← lft_snoc]; rfl
  | .fin, _ => by intro n c; simp only [itemD, itemC, lft_len]; rw [← lft_snoc]; rfl
  | .back k, h => by simp [bks] at h
  | .grp k r, h => by intro n c; simp only [bks] at h; simp only [itemD, itemC, List.not_mem_nil, if_false]; exact same_row r h n c
  | .rep a b x, h => by
    intro n c
    simp only [bks] at h
    simp only [itemD, itemC]
    split
    · exact same_item x h n c
    · exact same_rep (same_item x h) a b n c
theorem same_row : ∀ r : List Tr, bkss [] r → Same (fun d n c => rowD [] r d n c) (fun n c => rowC r n c)
  | [], _ => by intro n c; simp only [rowD, rowC]
  | x :: r, h => by
    intro n c
    simp only [bkss] at h
    simp only [rowD, rowC]
    have e := same_row r h.2 n c
    simp only at e
    rw [e]
    exact same_item x h.1 _ _
end
theorem build_nil (r : List Tr) (h : bkss [] r) : buildD [] r = (lft (buildC r).1, (buildC r).2) := same_row r h 0 [.done]
end Go.Proofs.YtldiemjlpnachaaDoor
