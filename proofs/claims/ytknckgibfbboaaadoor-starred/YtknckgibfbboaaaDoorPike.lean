import Derived.Test.YtknckgibfbboaaaDoorNfa
/- The plain mathematics: all ways side by side. Nothing of the program. -/
namespace Go.Proofs.YtknckgibfbboaaaDoor

/-- from step q to step x, at place t, without a byte -/
def Eps (l : List UInt8) (D : List Stp) (t q x : Nat) : Prop :=
  (D[q]? = some (.beg x) ∧ t = 0) ∨ (D[q]? = some (.fin x) ∧ t = l.length) ∨ (∃ o, D[q]? = some (.fork x o)) ∨ (∃ n, D[q]? = some (.fork n x))
/-- a way from step p at place i to step q at place t -/
inductive Rch (l : List UInt8) (D : List Stp) (p i : Nat) : Nat → Nat → Prop
  | refl : Rch l D p i p i
  | eps {q t x : Nat} : Rch l D p i q t → Eps l D t q x → Rch l D p i x t
  | byte {q t n : Nat} {f : Nat → Bool} : Rch l D p i q t → D[q]? = some (.one f n) → t < l.length → f (ch l t) = true → Rch l D p i n (t + 1)
theorem Rch.le {l : List UInt8} {D : List Stp} {p i q t : Nat} (h : Rch l D p i q t) : i ≤ t := by
  induction h with
  | refl => exact Nat.le_refl _
  | eps _ _ ih => exact ih
  | byte _ _ _ _ ih => omega
theorem Rch.hi {l : List UInt8} {D : List Stp} {p i q t : Nat} (h : Rch l D p i q t) (hi : i ≤ l.length) : t ≤ l.length := by
  induction h with
  | refl => exact hi
  | eps _ _ ih => exact ih
  | byte _ _ _ _ ih => omega
theorem Rch.trans {l : List UInt8} {D : List Stp} {p i q t r u : Nat} (h : Rch l D p i q t) (k : Rch l D q t r u) : Rch l D p i r u := by
  induction k with
  | refl => exact h
  | eps _ h2 ih => exact .eps ih h2
  | byte _ h2 h3 h4 ih => exact .byte ih h2 h3 h4
/-- the last byte of a way -/
theorem Rch.split {l : List UInt8} {D : List Stp} {p i q u : Nat} (h : Rch l D p i q u) : ∀ t, u = t + 1 → i ≤ t → ∃ q0 f n, Rch l D p i q0 t ∧ D[q0]? = some (.one f n) ∧ t < l.length ∧ f (ch l t) = true ∧ Rch l D n (t + 1) q (t + 1) := by
  induction h with
  | refl => intro t h1 h2; omega
  | eps h1 h2 ih =>
    intro t e hi
    obtain ⟨q0, f, n, a1, a2, a3, a4, a5⟩ := ih t e hi
    subst e
    exact ⟨q0, f, n, a1, a2, a3, a4, .eps a5 h2⟩
  | byte h1 h2 h3 h4 ih =>
    intro t e hi
    injection e with e
    subst e
    exact ⟨_, _, _, h1, h2, h3, h4, .refl⟩
theorem Rch.step {l : List UInt8} {D : List Stp} {p i q t x : Nat} (e : Eps l D i p x) (h : Rch l D x i q t) : Rch l D p i q t := (Rch.eps .refl e).trans h
theorem run_rch {l : List UInt8} {D : List Stp} {m p i j : Nat} (h : RunN l D m p i j) : ∃ q, Rch l D p i q j ∧ D[q]? = some .done := by
  induction h with
  | done h => exact ⟨_, .refl, h⟩
  | one h1 h2 h3 _ ih => obtain ⟨q, h5, h6⟩ := ih; exact ⟨q, (Rch.byte .refl h1 h2 h3).trans h5, h6⟩
  | beg h1 h2 _ ih => obtain ⟨q, h5, h6⟩ := ih; exact ⟨q, Rch.step (.inl ⟨h1, h2⟩) h5, h6⟩
  | fin h1 h2 _ ih => obtain ⟨q, h5, h6⟩ := ih; exact ⟨q, Rch.step (.inr (.inl ⟨h1, h2⟩)) h5, h6⟩
  | forkL h1 _ ih => obtain ⟨q, h5, h6⟩ := ih; exact ⟨q, Rch.step (.inr (.inr (.inl ⟨_, h1⟩))) h5, h6⟩
  | forkR h1 _ ih => obtain ⟨q, h5, h6⟩ := ih; exact ⟨q, Rch.step (.inr (.inr (.inr ⟨_, h1⟩))) h5, h6⟩
theorem rch_run {l : List UInt8} {D : List Stp} {p i q j : Nat} (h : Rch l D p i q j) : ∀ u, Run l D q j u → Run l D p i u := by
  induction h with
  | refl => exact fun u h => h
  | eps _ h2 ih =>
    intro u ⟨m, hm⟩
    apply ih
    rcases h2 with ⟨h3, h4⟩ | ⟨h3, h4⟩ | ⟨o, h3⟩ | ⟨n, h3⟩
    · exact ⟨_, .beg h3 h4 hm⟩
    · exact ⟨_, .fin h3 h4 hm⟩
    · exact ⟨_, .forkL h3 hm⟩
    · exact ⟨_, .forkR h3 hm⟩
  | byte _ h2 h3 h4 ih =>
    intro u ⟨m, hm⟩
    exact ih u ⟨_, .one h2 h3 h4 hm⟩
theorem run_iff {l : List UInt8} {D : List Stp} {p i j : Nat} (h0 : D[0]? = some .done) (hu : ∀ q, D[q]? = some .done → q = 0) : Run l D p i j ↔ Rch l D p i 0 j := by
  constructor
  · rintro ⟨m, hm⟩
    obtain ⟨q, h1, h2⟩ := run_rch hm
    rw [hu q h2] at h1
    exact h1
  · intro h
    exact rch_run h j ⟨0, .done h0⟩

/-- what enter works on: seen, the list, found, from, to -/
structure Sx where
  sn : List Nat
  li : List (Nat × Nat)
  fd : Bool
  a : Nat
  b : Nat
def vis (t : Nat) (s : Sx) (q : Nat) : Prop := s.sn[q]? = some (t + 1)
def OneAt (D : List Stp) (q : Nat) : Prop := ∃ f n, D[q]? = some (.one f n)
/-- what enter has done so far, from step p on, with start i; what is pending -/
structure Ent (l : List UInt8) (D : List Stp) (t i p : Nat) (pend : Nat → Prop) (s s' : Sx) : Prop where
  len : s'.sn.length = s.sn.length
  keep : ∀ q, vis t s' q ∨ s'.sn[q]? = s.sn[q]?
  mono : ∀ q, vis t s q → vis t s' q
  root : vis t s' p ∨ pend p
  shut : ∀ q x, ¬ vis t s q → vis t s' q → Eps l D t q x → vis t s' x ∨ pend x
  snd : ∀ q, ¬ vis t s q → vis t s' q → Rch l D p t q t
  pr : ∀ q, pend q → Rch l D p t q t
  li : ∃ X, s'.li = s.li ++ X ∧ (∀ x ∈ X, x.2 = i ∧ OneAt D x.1 ∧ vis t s' x.1 ∧ ¬ vis t s x.1) ∧ (∀ q, ¬ vis t s q → vis t s' q → OneAt D q → (q, i) ∈ X)
  cnt : s'.li.length + s.sn.count (t + 1) ≤ s.li.length + s'.sn.count (t + 1)
  fd : (s'.fd = s.fd ∧ s'.a = s.a ∧ s'.b = s.b ∧ ∀ q, ¬ vis t s q → vis t s' q → D[q]? ≠ some .done) ∨ (s'.fd = true ∧ s'.a = i ∧ s'.b = t ∧ ∃ q, ¬ vis t s q ∧ vis t s' q ∧ D[q]? = some .done)
theorem Ent.start (l : List UInt8) (D : List Stp) (t i p : Nat) (s : Sx) : Ent l D t i p (fun x => x = p) s s :=
  ⟨rfl, fun _ => .inr rfl, fun _ h => h, .inr rfl, fun _ _ h1 h2 => absurd h2 h1, fun _ h1 h2 => absurd h2 h1, fun q h => by rw [h]; exact .refl, ⟨[], by simp, by simp, fun _ h1 h2 => absurd h2 h1⟩, Nat.le_refl _, .inl ⟨rfl, rfl, rfl, fun _ h1 h2 => absurd h2 h1⟩⟩
theorem Ent.weak {l : List UInt8} {D : List Stp} {t i p : Nat} {P Q : Nat → Prop} {s s' : Sx} (h : Ent l D t i p P s s') (hP : ∀ x, P x → vis t s' x ∨ Q x) (hQ : ∀ x, Q x → P x) : Ent l D t i p Q s s' :=
  ⟨h.len, h.keep, h.mono, by rcases h.root with h1 | h1; exact .inl h1; exact hP _ h1, fun q x h1 h2 h3 => by rcases h.shut q x h1 h2 h3 with h4 | h4; exact .inl h4; exact hP _ h4, h.snd, fun q hq => h.pr q (hQ q hq), h.li, h.cnt, h.fd⟩
/-- one step is marked -/
def mark (s : Sx) (t q : Nat) : Sx := { s with sn := s.sn.set q (t + 1) }
theorem vis_mark {s : Sx} {t q x : Nat} (hq : q < s.sn.length) : vis t (mark s t q) x ↔ x = q ∨ vis t s x := by
  unfold vis mark
  by_cases e : x = q
  · subst e
    simp [List.getElem?_set_self hq]
  · simp only [List.getElem?_set_ne (Ne.symm e)]
    simp [e]
theorem count_mark {s : Sx} {t q : Nat} (hq : q < s.sn.length) (hv : ¬ vis t s q) : (mark s t q).sn.count (t + 1) = s.sn.count (t + 1) + 1 := by
  unfold vis at hv
  unfold mark
  simp only
  rw [List.count_set hq]
  have h1 : (s.sn[q] == t + 1) = false := by
    rw [List.getElem?_eq_getElem hq] at hv
    simpa using hv
  simp [h1]
/-- what is done where a step is marked -/
def put1 (s : Sx) (t i q : Nat) : Stp → Sx
  | .done => { mark s t q with fd := true, a := i, b := t }
  | .one _ _ => { mark s t q with li := s.li ++ [(q, i)] }
  | _ => mark s t q
theorem put1_sn (s : Sx) (t i q : Nat) (st : Stp) : (put1 s t i q st).sn = (mark s t q).sn := by cases st <;> rfl
theorem Ent.mark {l : List UInt8} {D : List Stp} {t i p q : Nat} {P : Nat → Prop} {s s' : Sx} {st : Stp} (h : Ent l D t i p P s s') (hP : ∀ x, P x → x = q) (hpq : P q) (hq : q < s'.sn.length) (hv : ¬ vis t s' q) (hst : D[q]? = some st) :
    Ent l D t i p (fun x => Eps l D t q x) s (put1 s' t i q st) := by
  have hvis : ∀ x, vis t (put1 s' t i q st) x ↔ x = q ∨ vis t s' x := fun x => by
    rw [← vis_mark (t := t) hq]
    unfold vis
    rw [put1_sn]
  have hold : ¬ vis t s q := fun h1 => hv (h.mono q h1)
  refine ⟨by rw [put1_sn]; simp [Go.Proofs.YtknckgibfbboaaaDoor.mark, h.len], fun x => ?_, fun x hx => (hvis x).2 (.inr (h.mono x hx)), ?_, fun x y h1 h2 h3 => ?_, fun x h1 h2 => ?_, fun x hx => .eps (h.pr q hpq) hx, ?_, ?_, ?_⟩
  · by_cases e : x = q
    · exact .inl ((hvis x).2 (.inl e))
    · rcases h.keep x with h1 | h1
      · exact .inl ((hvis x).2 (.inr h1))
      · right
        rw [put1_sn, ← h1]
        simp [Go.Proofs.YtknckgibfbboaaaDoor.mark, List.getElem?_set_ne (Ne.symm e)]
  · rcases h.root with h1 | h1
    · exact .inl ((hvis p).2 (.inr h1))
    · exact .inl ((hvis p).2 (.inl (hP p h1)))
  · rcases (hvis x).1 h2 with rfl | h4
    · exact .inr h3
    · rcases h.shut x y h1 h4 h3 with h5 | h5
      · exact .inl ((hvis y).2 (.inr h5))
      · exact .inl ((hvis y).2 (.inl (hP y h5)))
  · rcases (hvis x).1 h2 with rfl | h4
    · exact h.pr x hpq
    · exact h.snd x h1 h4
  · obtain ⟨X, e, hX, hY⟩ := h.li
    by_cases ho : ∃ f n, st = .one f n
    · obtain ⟨f, n, rfl⟩ := ho
      refine ⟨X ++ [(q, i)], by simp [put1, e], fun x hx => ?_, fun x h1 h2 h3 => ?_⟩
      · rcases List.mem_append.1 hx with hx | hx
        · obtain ⟨a1, a2, a3, a4⟩ := hX x hx
          exact ⟨a1, a2, (hvis _).2 (.inr a3), a4⟩
        · simp at hx
          subst hx
          exact ⟨rfl, ⟨f, n, hst⟩, (hvis _).2 (.inl rfl), hold⟩
      · rcases (hvis x).1 h2 with rfl | h4
        · simp
        · exact List.mem_append_left _ (hY x h1 h4 h3)
    · refine ⟨X, by rw [← e]; cases st <;> first | rfl | exact absurd ⟨_, _, rfl⟩ ho, fun x hx => ?_, fun x h1 h2 h3 => ?_⟩
      · obtain ⟨a1, a2, a3, a4⟩ := hX x hx
        exact ⟨a1, a2, (hvis _).2 (.inr a3), a4⟩
      · rcases (hvis x).1 h2 with rfl | h4
        · obtain ⟨f, n, h5⟩ := h3
          rw [hst] at h5
          cases h5
          exact absurd ⟨_, _, rfl⟩ ho
        · exact hY x h1 h4 h3
  · have := h.cnt
    have hc := count_mark (t := t) hq hv
    rw [← put1_sn s' t i q st] at hc
    have hl : (put1 s' t i q st).li.length ≤ s'.li.length + 1 := by cases st <;> simp [put1, Go.Proofs.YtknckgibfbboaaaDoor.mark]
    omega
  · by_cases hd : st = .done
    · subst hd
      exact .inr ⟨rfl, rfl, rfl, q, hold, (hvis q).2 (.inl rfl), hst⟩
    · have e : (put1 s' t i q st).fd = s'.fd ∧ (put1 s' t i q st).a = s'.a ∧ (put1 s' t i q st).b = s'.b := by cases st <;> first | exact absurd rfl hd | exact ⟨rfl, rfl, rfl⟩
      rcases h.fd with ⟨a1, a2, a3, a4⟩ | ⟨a1, a2, a3, x, a4, a5, a6⟩
      · refine .inl ⟨e.1.trans a1, e.2.1.trans a2, e.2.2.trans a3, fun x h1 h2 h3 => ?_⟩
        rcases (hvis x).1 h2 with rfl | h4
        · rw [hst] at h3; cases h3; exact hd rfl
        · exact a4 x h1 h4 h3
      · exact .inr ⟨e.1.trans a1, e.2.1.trans a2, e.2.2.trans a3, x, a4, (hvis x).2 (.inr a5), a6⟩
/-- an enter within -/
theorem Ent.sub {l : List UInt8} {D : List Stp} {t i p o : Nat} {P : Nat → Prop} {s s' s'' : Sx} (h : Ent l D t i p P s s') (k : Ent l D t i o (fun _ => False) s' s'') (hr : Rch l D p t o t) : Ent l D t i p (fun x => P x ∧ x ≠ o) s s'' := by
  have hro : vis t s'' o := by rcases k.root with h1 | h1; exact h1; exact h1.elim
  have pd : ∀ x, P x → vis t s'' x ∨ (P x ∧ x ≠ o) := fun x hx => by
    by_cases e : x = o
    · subst e; exact .inl hro
    · exact .inr ⟨hx, e⟩
  refine ⟨k.len.trans h.len, fun q => ?_, fun q hq => k.mono q (h.mono q hq), ?_, fun q x h1 h2 h3 => ?_, fun q h1 h2 => ?_, fun q hq => h.pr q hq.1, ?_, ?_, ?_⟩
  · rcases k.keep q with h1 | h1
    · exact .inl h1
    · rcases h.keep q with h2 | h2
      · exact .inl (k.mono q h2)
      · exact .inr (h1.trans h2)
  · rcases h.root with h1 | h1
    · exact .inl (k.mono p h1)
    · exact pd p h1
  · by_cases hv : vis t s' q
    · rcases h.shut q x h1 hv h3 with h4 | h4
      · exact .inl (k.mono x h4)
      · exact pd x h4
    · rcases k.shut q x hv h2 h3 with h4 | h4
      · exact .inl h4
      · exact h4.elim
  · by_cases hv : vis t s' q
    · exact h.snd q h1 hv
    · exact hr.trans (k.snd q hv h2)
  · obtain ⟨X, e, hX, hY⟩ := h.li
    obtain ⟨X2, e2, hX2, hY2⟩ := k.li
    refine ⟨X ++ X2, by rw [e2, e, List.append_assoc], fun x hx => ?_, fun q h1 h2 h3 => ?_⟩
    · rcases List.mem_append.1 hx with hx | hx
      · obtain ⟨a1, a2, a3, a4⟩ := hX x hx
        exact ⟨a1, a2, k.mono _ a3, a4⟩
      · obtain ⟨a1, a2, a3, a4⟩ := hX2 x hx
        exact ⟨a1, a2, a3, fun h1 => a4 (h.mono _ h1)⟩
    · by_cases hv : vis t s' q
      · exact List.mem_append_left _ (hY q h1 hv h3)
      · exact List.mem_append_right _ (hY2 q hv h2 h3)
  · have := h.cnt
    have := k.cnt
    omega
  · rcases k.fd with ⟨b1, b2, b3, b4⟩ | ⟨b1, b2, b3, x, b4, b5, b6⟩
    · rcases h.fd with ⟨a1, a2, a3, a4⟩ | ⟨a1, a2, a3, x, a4, a5, a6⟩
      · refine .inl ⟨b1.trans a1, b2.trans a2, b3.trans a3, fun q h1 h2 h3 => ?_⟩
        by_cases hv : vis t s' q
        · exact a4 q h1 hv h3
        · exact b4 q hv h2 h3
      · exact .inr ⟨b1.trans a1, b2.trans a2, b3.trans a3, x, a4, k.mono _ a5, a6⟩
    · exact .inr ⟨b1, b2, b3, x, fun h1 => b4 (h.mono _ h1), b5, b6⟩
end Go.Proofs.YtknckgibfbboaaaDoor
