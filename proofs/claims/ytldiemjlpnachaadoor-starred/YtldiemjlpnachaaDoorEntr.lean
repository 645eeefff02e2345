import Derived.Test.YtldiemjlpnachaaDoorSrch
import Derived.Deep.LoopGhost
namespace Go.Proofs.YtldiemjlpnachaaDoor
open Go.RowKit

def WfS (n : Nat) : Stp → Prop
  | .done => True
  | .one _ m => m < n
  | .beg m => m < n
  | .fin m => m < n
  | .fork m o => m < n ∧ o < n
def WfC (D : List Stp) : Prop := ∀ (q : Nat) (st : Stp), D[q]? = some st → WfS D.length st
/-- the blocks that a call of enter writes -/
abbrev Γb (Γ : Cfg) (A LA : Nat) : List Nat := [Γ.S, Γ.SB, A, LA]
structure Apw (Γ : Cfg) (A LA : Nat) : Prop where
  a : Apt Γ
  n1 : A ≠ LA
  n2 : Γ.S ≠ A
  n3 : Γ.S ≠ LA
  n4 : Γ.SB ≠ A
  n5 : Γ.SB ≠ LA
  n6 : Γ.P ≠ A
  n7 : Γ.P ≠ LA
  n8 : Γ.G ≠ A
  n9 : Γ.G ≠ LA
def EnPost (Γ : Cfg) (A LA t i p : Nat) (s : Sx) (w w' : World) (e : Ending) : Prop :=
  e = .returned (.tuple #[]) ∧ ∃ s', Ent Γ.ln.data.toList Γ.D t i p (fun _ => False) s s' ∧ Sh w' Γ t s'.sn s'.fd s'.a s'.b ∧ Ways w' A LA Γ.D.length s'.li ∧ Bl w w' (Γb Γ A LA)
def EnSaid (Γ : Cfg) (A LA t i n : Nat) : Prop := ∀ (w : World) (s : Sx) (p : Nat), s.sn.length < s.sn.count (t + 1) + n → p < Γ.D.length → (∀ (q v : Nat), s.sn[q]? = some v → v ≤ t + 1) → s.li.length ≤ s.sn.count (t + 1) → Sh w Γ t s.sn s.fd s.a s.b → Ways w A LA Γ.D.length s.li →
    Calls Tryd.prog 41 #[.pointer (some ⟨Γ.S, 0, none⟩), .int .i64 p, .int .i64 i, .pointer (some ⟨A, 0, none⟩)] w fun e w' => EnPost Γ A LA t i p s w w' e

theorem Ent.weak' {l : List UInt8} {D : List Stp} {t i p : Nat} {P Q : Nat → Prop} {s s' : Sx} (h : Ent l D t i p P s s') (hP : ∀ x, P x → vis t s' x ∨ Q x) (hQ : ∀ x, Q x → Rch l D p t x t) : Ent l D t i p Q s s' :=
  ⟨h.len, h.keep, h.mono, by rcases h.root with h1 | h1; exact .inl h1; exact hP _ h1, fun q x h1 h2 h3 => by rcases h.shut q x h1 h2 h3 with h4 | h4; exact .inl h4; exact hP _ h4, h.snd, hQ, h.li, h.cnt, h.fd⟩
theorem Ent.hi {l : List UInt8} {D : List Stp} {t i p : Nat} {P : Nat → Prop} {s s' : Sx} (h : Ent l D t i p P s s') (hs : ∀ (q v : Nat), s.sn[q]? = some v → v ≤ t + 1) : ∀ (q v : Nat), s'.sn[q]? = some v → v ≤ t + 1 := by
  intro q v hq
  rcases h.keep q with h1 | h1
  · unfold vis at h1; rw [hq] at h1; cases h1; exact Nat.le_refl _
  · rw [h1] at hq; exact hs q v hq
theorem Ent.grow {l : List UInt8} {D : List Stp} {t i p : Nat} {P : Nat → Prop} {s s' : Sx} (h : Ent l D t i p P s s') : s.li.length ≤ s'.li.length := by
  obtain ⟨X, e, _⟩ := h.li
  rw [e, List.length_append]; omega
theorem eps_no {l : List UInt8} {D : List Stp} {t q : Nat} {st : Stp} (h : D[q]? = some st) (hs : match st with | .done => True | .one _ _ => True | .beg _ => t ≠ 0 | .fin _ => t ≠ l.length | .fork _ _ => False) : ∀ x, ¬ Eps l D t q x := by
  intro x hx
  unfold Eps at hx
  rw [h] at hx
  cases st <;> simp at hs hx <;> first | exact hx.2 |> fun e => hs e | skip
theorem sn_put1 (s : Sx) (t i q : Nat) (st : Stp) : (put1 s t i q st).sn = s.sn.set q (t + 1) := by cases st <;> rfl

set_option maxHeartbeats 3200000 in
set_option maxRecDepth 100000 in
theorem enter_step (Γ : Cfg) (A LA t i n : Nat) (hA : Apw Γ A LA) (hW : WfC Γ.D) (hD : Γ.D.length ≤ 1000) (ht : t ≤ 2000000000) (htl : t ≤ Γ.ln.size) (ih : EnSaid Γ A LA t i n) : EnSaid Γ A LA t i (n + 1) := by
  intro w s p hn hp hhi hli hS hL
  have Hih := hd ih
  have Htl := hd htl
  have HA := hd hA
  have HW := hd hW
  clear ih hA hW htl
  go_enter Tryd.func41, Tryd.ntmps41
  go_wp2
  go_loopg [1] (n + 1) (fun k st wr => ∃ (q : Nat) (s' : Sx), st = .int .i64 q ∧ q < Γ.D.length ∧ Hid (Ent Γ.ln.data.toList Γ.D t i p (fun x => x = q) s s') ∧ Sh wr Γ t s'.sn s'.fd s'.a s'.b ∧ Ways wr A LA Γ.D.length s'.li ∧ Hid (Bl w wr (Γb Γ A LA)) ∧ Hid (∀ (q v : Nat), s'.sn[q]? = some v → v ≤ t + 1) ∧ s'.sn.length < s'.sn.count (t + 1) + k ∧ s'.sn.length < s'.sn.count (t + 1) + (n + 1) ∧ s'.li.length ≤ s'.sn.count (t + 1))
  case atStart => exact ⟨p, s, rfl, hp, hd (Ent.start _ _ _ _ _ _), hS, hL, hd (Bl.refl _ _), hd hhi, hn, hn, hli⟩
  case round =>
    clear hS hL hn hhi hli
    obtain ⟨q, s', rfl, hq, HE, hS, hL, HB, Hhi, hn, hn1, hli⟩ := hrel
    have hql : q < s'.sn.length := by rw [hS.snl]; exact hq
    obtain ⟨v, hv⟩ : ∃ v, s'.sn[q]? = some v := ⟨s'.sn[q], List.getElem?_eq_getElem hql⟩
    have hvt := Hhi.out q v hv
    obtain ⟨x1, x2⟩ := hS.sn q v hv
    have s0 := hS.s0
    have s2 := hS.s2
    have s3 := hS.s3
    have q0 : (0 : Int) ≤ (q : Int) := by omega
    have q1 : (q : Int) < (Γ.D.length : Int) := by omega
    by_cases hvis : t < v
    · have hle : decide ((v : Int) ≤ (t : Int)) = false := by simp; omega
      go_wp2
      go_quiet (fail)
      go_wp2
      go_end0
      refine ⟨rfl, s', ?_, hS.drewN, hL.drewN, HB.out.drewN⟩
      refine HE.out.weak (fun x hx => .inl ?_) (fun x hx => hx.elim)
      subst hx
      unfold vis
      rw [hv]
      congr 1
      omega
    · have hle : decide ((v : Int) ≤ (t : Int)) = true := by simp; omega
      have hle2 : (v : Int) ≤ (t : Int) := by omega
      go_wp2
      go_quiet (fail)
      go_wp2
      go_region
      obtain ⟨st, hst⟩ : ∃ st, Γ.D[q]? = some st := ⟨Γ.D[q], List.getElem?_eq_getElem hq⟩
      have hnv : ¬ vis t s' q := fun h => by unfold vis at h; rw [hv] at h; cases h; omega
      have HM := hd (HE.out.mark (fun x hx => hx) rfl hql hnv hst)
      have hcm := count_mark hql hnv
      have hcl : (s'.sn.set q (t + 1)).count (t + 1) ≤ (s'.sn.set q (t + 1)).length := List.count_le_length
      have hcm' : (s'.sn.set q (t + 1)).count (t + 1) = s'.sn.count (t + 1) + 1 := hcm
      rw [hcm', List.length_set, hS.snl] at hcl
      have HBW : Hid (Bl w ((wr.drewN (nq + 1)).setCell ⟨Γ.SB, q, none⟩ (.int .i64 ((t : Int) + 1))) (Γb Γ A LA)) := hd (HB.out.drewN.set _ (by simp) _)
      have hS1 : Sh ((wr.drewN (nq + 1)).setCell ⟨Γ.SB, q, none⟩ (.int .i64 ((t : Int) + 1))) Γ t (s'.sn.set q (t + 1)) s'.fd s'.a s'.b := by
        have := (hS.drewN (n := nq + 1)).mark HA.out.a (q := q) (u := t + 1) hql
        simpa using this
      have hL1 : Ways ((wr.drewN (nq + 1)).setCell ⟨Γ.SB, q, none⟩ (.int .i64 ((t : Int) + 1))) A LA Γ.D.length s'.li := (hL.drewN (n := nq + 1)).bl ((Bl.refl _ [Γ.SB]).set _ (by simp) _) (by simpa using Ne.symm HA.out.n4) (by simpa using Ne.symm HA.out.n5)
      have Hhi1 : Hid (∀ (x v : Nat), (s'.sn.set q (t + 1))[x]? = some v → v ≤ t + 1) := hd (fun x v hx => by
        by_cases e : q = x
        · subst e; rw [List.getElem?_set_self hql] at hx; cases hx; exact Nat.le_refl _
        · rw [List.getElem?_set_ne e] at hx; exact Hhi.out x v hx)
      generalize (wr.drewN (nq + 1)).setCell ⟨Γ.SB, q, none⟩ (.int .i64 ((t : Int) + 1)) = W at HBW hS1 hL1 ⊢
      have hsl := hS.snl
      clear hS hL s0 s2 s3 x1 x2 HB Hhi hle hle2 hcm
      have s0 := hS1.s0
      have s1 := hS1.s1
      have s2 := hS1.s2
      have s4 := hS1.s4
      have s5 := hS1.s5
      have s6 := hS1.s6
      have f4 := hS1.f4
      have f5 := hS1.f5
      have f6 := hS1.f6
      have p0 := hS1.p0
      have hstp := hS1.st q st hst
      have hwf := HW.out q st hst
      cases st with
      | done =>
        have k0 : W.cell? ⟨Γ.G, q * 14, none⟩ = some (.int .i64 0) := hstp
        go_wp2
        refine bodyPost_ret (v := .tuple #[]) (by simp [results, Tryd.results41, go_sem]) rfl ?_
        refine ⟨rfl, _, HM.out.weak (fun x hx => (eps_no hst trivial x hx).elim) (fun x hx => hx.elim), hS1.found HA.out.a, hL1.bl ((((Bl.refl _ [Γ.S]).set _ (by simp) _).set _ (by simp) _).set _ (by simp) _) (by simpa using Ne.symm HA.out.n2) (by simpa using Ne.symm HA.out.n3), ((HBW.out.set _ (by simp) _).set _ (by simp) _).set _ (by simp) _⟩
      | one f m =>
        obtain ⟨k0, k9, _⟩ := hstp
        have Hput := hd (wput_any A LA Γ.D.length s'.li q i W hL1 HA.out.n1 (by omega) (by omega))
        go_wp2_with fail
        refine Hput.out.mono ?_
        rintro e w2 ⟨rfl, hL2, hB2⟩
        go_wp2
        refine bodyPost_ret (v := .tuple #[]) (by simp [results, Tryd.results41, go_sem]) rfl ?_
        refine ⟨rfl, _, HM.out.weak (fun x hx => (eps_no hst trivial x hx).elim) (fun x hx => hx.elim), hS1.bl hB2 (by simpa using ⟨HA.out.n2, HA.out.n3⟩) (by simpa using ⟨HA.out.n4, HA.out.n5⟩) (by simpa using ⟨HA.out.n6, HA.out.n7⟩) (by simpa using ⟨HA.out.n8, HA.out.n9⟩), hL2, HBW.out.trans (hB2.mono (by simp))⟩
      | beg m =>
        obtain ⟨k0, k9⟩ := hstp
        by_cases h0 : t = 0
        · subst h0
          go_wp2
          go_roundg (gk - 1)
          case measure => omega
          case rel => exact ⟨m, _, rfl, hwf, hd (HM.out.weak' (fun x hx => .inr (by rcases hx with ⟨h, _⟩ | ⟨h, _⟩ | ⟨o, h⟩ | ⟨o, h⟩ <;> rw [hst] at h <;> cases h; rfl)) (fun x hx => HM.out.pr x (.inl ⟨by rw [hx]; exact hst, rfl⟩))), hS1, hL1, HBW, Hhi1, by show (s'.sn.set q (0 + 1)).length < (s'.sn.set q (0 + 1)).count (0 + 1) + (gk - 1); rw [hcm', List.length_set]; omega, by show (s'.sn.set q (0 + 1)).length < (s'.sn.set q (0 + 1)).count (0 + 1) + (n + 1); rw [hcm', List.length_set]; omega, by show s'.li.length ≤ (s'.sn.set q (0 + 1)).count (0 + 1); rw [hcm']; omega⟩
        · have htp : (0 : Int) < (t : Int) := by omega
          go_wp2
          refine bodyPost_ret (v := .tuple #[]) (by simp [results, Tryd.results41, go_sem]) rfl ?_
          exact ⟨rfl, _, HM.out.weak (fun x hx => (eps_no hst h0 x hx).elim) (fun x hx => hx.elim), hS1, hL1, HBW.out⟩
      | fin m =>
        obtain ⟨k0, k9⟩ := hstp
        by_cases h0 : t = Γ.ln.data.toList.length
        · have htl : decide ((t : Int) < (Γ.ln.size : Int)) = false := by rw [len_data] at h0; simp; omega
          have h0' : ¬ (t : Int) < (Γ.ln.size : Int) := by rw [len_data] at h0; omega
          have H0 := hd h0
          clear h0
          go_wp2
          go_quiet (fail)
          go_wp2
          go_roundg (gk - 1)
          case measure => omega
          case rel => exact ⟨m, _, rfl, hwf, hd (HM.out.weak' (fun x hx => .inr (by rcases hx with ⟨h, _⟩ | ⟨h, _⟩ | ⟨o, h⟩ | ⟨o, h⟩ <;> rw [hst] at h <;> cases h; rfl)) (fun x hx => HM.out.pr x (.inr (.inl ⟨by rw [hx]; exact hst, H0.out⟩)))), hS1.drewN, hL1.drewN, hd HBW.out.drewN, Hhi1, by show (s'.sn.set q (t + 1)).length < (s'.sn.set q (t + 1)).count (t + 1) + (gk - 1); rw [hcm', List.length_set]; omega, by show (s'.sn.set q (t + 1)).length < (s'.sn.set q (t + 1)).count (t + 1) + (n + 1); rw [hcm', List.length_set]; omega, by show s'.li.length ≤ (s'.sn.set q (t + 1)).count (t + 1); rw [hcm']; omega⟩
        · by_cases h1 : (t : Int) < (Γ.ln.size : Int)
          · have H0 := hd h0
            clear h0
            go_wp2
            go_quiet (fail)
            go_wp2
            refine bodyPost_ret (v := .tuple #[]) (by simp [results, Tryd.results41, go_sem]) rfl ?_
            exact ⟨rfl, _, HM.out.weak (fun x hx => (eps_no hst H0.out x hx).elim) (fun x hx => hx.elim), hS1.drewN, hL1.drewN, HBW.out.drewN⟩
          · exfalso
            rw [len_data] at h0
            have := Htl.out
            omega
      | fork m o =>
        obtain ⟨k0, k9, k10⟩ := hstp
        have Hc := hd (Hih.out W (put1 s' t i q (.fork m o)) o (by show (s'.sn.set q (t + 1)).length < (s'.sn.set q (t + 1)).count (t + 1) + n; rw [hcm', List.length_set]; omega) hwf.2 Hhi1.out (by show s'.li.length ≤ (s'.sn.set q (t + 1)).count (t + 1); rw [hcm']; omega) hS1 hL1)
        go_wp2_with fail
        refine Hc.out.mono ?_
        rintro e w2 ⟨rfl, s2', hE2, hS2, hL2, hB2⟩
        have k9' : w2.cell? ⟨Γ.G, q * 14 + 10, none⟩ = some (.int .i64 m) := hB2.cell (by simpa using ⟨HA.out.a.n4, HA.out.a.n5, HA.out.n8, HA.out.n9⟩) k9
        have HN := hd ((HM.out.sub hE2 (HM.out.pr o (.inr (.inr (.inr ⟨_, hst⟩))))).weak' (Q := fun x => x = m) (fun x hx => by
            rcases hx.1 with ⟨h, _⟩ | ⟨h, _⟩ | ⟨o', h⟩ | ⟨o', h⟩ <;> rw [hst] at h <;> cases h
            · exact .inr rfl
            · exact absurd rfl hx.2) (fun x hx => HM.out.pr x (.inr (.inr (.inl ⟨o, by rw [hx]; exact hst⟩)))))
        have hg := hE2.grow
        have hc2 := hE2.cnt
        have hl2 := hE2.len
        have Hhi2 := hd (hE2.hi Hhi1.out)
        have e1 : (put1 s' t i q (.fork m o)).sn = s'.sn.set q (t + 1) := rfl
        have e2 : (put1 s' t i q (.fork m o)).li = s'.li := rfl
        rw [e1, e2] at hc2
        rw [e1, List.length_set] at hl2
        rw [e2] at hg
        rw [hcm'] at hc2
        clear hE2 k9 k10 k0
        go_wp2
        go_roundg (gk - 1)
        case measure => omega
        case rel => exact ⟨m, s2', rfl, hwf.1, HN, hS2, hL2, hd (HBW.out.trans hB2), Hhi2, by omega, by omega, by omega⟩
end Go.Proofs.YtldiemjlpnachaaDoor
