import Derived.Test.YtldiemjlpnachaaDoorEntr
namespace Go.Proofs.YtldiemjlpnachaaDoor
open Go.RowKit

theorem enter_all (Γ : Cfg) (A LA t i : Nat) (hA : Apw Γ A LA) (hW : WfC Γ.D) (hD : Γ.D.length ≤ 1000) (ht : t ≤ 2000000000) (htl : t ≤ Γ.ln.size) : ∀ n, EnSaid Γ A LA t i n
  | 0 => fun w s p hn => by
    have : s.sn.count (t + 1) ≤ s.sn.length := List.count_le_length
    omega
  | n + 1 => enter_step Γ A LA t i n hA hW hD ht htl (enter_all Γ A LA t i hA hW hD ht htl n)
theorem enter_any (Γ : Cfg) (A LA t i : Nat) (hA : Apw Γ A LA) (hW : WfC Γ.D) (hD : Γ.D.length ≤ 1000) (ht : t ≤ 2000000000) (htl : t ≤ Γ.ln.size) (w : World) (s : Sx) (p : Nat) (hp : p < Γ.D.length) (hhi : ∀ (q v : Nat), s.sn[q]? = some v → v ≤ t + 1) (hli : s.li.length ≤ s.sn.count (t + 1)) (hS : Sh w Γ t s.sn s.fd s.a s.b) (hL : Ways w A LA Γ.D.length s.li) :
    Calls Tryd.prog 41 #[.pointer (some ⟨Γ.S, 0, none⟩), .int .i64 p, .int .i64 i, .pointer (some ⟨A, 0, none⟩)] w fun e w' => EnPost Γ A LA t i p s w w' e :=
  enter_all Γ A LA t i hA hW hD ht htl (s.sn.length + 1) w s p (by omega) hp hhi hli hS hL

/-- what pass leaves: all ways at the next place -/
def PaPost (Γ : Cfg) (A LA B LB f0 t : Nat) (L : List (Nat × Nat)) (w w' : World) (e : Ending) : Prop :=
  e = .returned (.tuple #[]) ∧ ∃ s : Sx, Plc Γ.ln.data.toList Γ.D Γ.e f0 (t + 1) s.li s.fd s.a s.b ∧ (∀ (q v : Nat), s.sn[q]? = some v → v ≤ t + 2) ∧ s.li.length ≤ Γ.D.length ∧ Sh w' Γ (t + 1) s.sn s.fd s.a s.b ∧ Ways w' B LB Γ.D.length s.li ∧ Ways w' A LA Γ.D.length L ∧ Bl w w' (Γb Γ B LB)

set_option maxHeartbeats 3200000 in
set_option maxRecDepth 100000 in
theorem pass_any (Γ : Cfg) (A LA B LB f0 t : Nat) (hA : Apw Γ A LA) (hB : Apw Γ B LB) (hAB : A ≠ B ∧ A ≠ LB ∧ LA ≠ B ∧ LA ≠ LB) (hW : WfC Γ.D) (hD : Γ.D.length ≤ 1000) (ht : t < Γ.ln.size) (hlt : Γ.ln.size ≤ 1000000000) (he : Γ.e < Γ.D.length) (h0 : Γ.D[0]? = some .done) (hu : ∀ q, Γ.D[q]? = some .done → q = 0) (hf0 : f0 ≤ t)
    (L X : List (Nat × Nat)) (fd : Bool) (a b : Nat) (sn : List Nat) (w : World) (hP : Plc Γ.ln.data.toList Γ.D Γ.e f0 t L fd a b) (hLc : L.length ≤ Γ.D.length) (hhi : ∀ (q v : Nat), sn[q]? = some v → v ≤ t + 1) (hS : Sh w Γ t sn fd a b) (hLA : Ways w A LA Γ.D.length L) (hLB : Ways w B LB Γ.D.length X) :
    Calls Tryd.prog 42 #[.pointer (some ⟨Γ.S, 0, none⟩), .int .u8 (ch Γ.ln.data.toList t), .pointer (some ⟨A, 0, none⟩), .pointer (some ⟨B, 0, none⟩)] w fun e w' => PaPost Γ A LA B LB f0 t L w w' e := by
  have s2 := hS.s2
  have f2 := hS.f2
  have b1 := hLB.a1
  have g1 := hLB.f1
  have HA := hd hA
  have HB := hd hB
  have HAB := hd hAB
  have HW := hd hW
  have HP := hd hP
  have H0 := hd h0
  have Hu := hd hu
  have Hhi := hd hhi
  have HS := hd hS
  have HLA := hd hLA
  have HLB := hd hLB
  clear hA hB hAB hW hP h0 hu hhi hS hLA hLB
  go_enter Tryd.func42, Tryd.ntmps42
  have hbn : B ≠ Γ.S := Ne.symm HB.out.n2
  go_wp2
  have HS1 : Hid (Sh ((w.setCell ⟨Γ.S, 2, none⟩ (.int .i64 ((t : Int) + 1))).setCell ⟨B, 1, none⟩ (.int .i64 0)) Γ (t + 1) sn fd a b) := by
    have := HS.out.next (u := t + 1) HB.out.a
    have := this.bl ((Bl.refl _ [B]).set ⟨B, 1, none⟩ (by simp) (.int .i64 0)) (by simpa using HB.out.n2) (by simpa using HB.out.n4) (by simpa using HB.out.n6) (by simpa using HB.out.n8)
    exact hd (by simpa using this)
  have HL1 : Hid (Ways ((w.setCell ⟨Γ.S, 2, none⟩ (.int .i64 ((t : Int) + 1))).setCell ⟨B, 1, none⟩ (.int .i64 0)) B LB Γ.D.length []) :=
    hd ((HLB.out.bl ((Bl.refl _ [Γ.S]).set ⟨Γ.S, 2, none⟩ (by simp) _) (by simpa using Ne.symm HB.out.n2) (by simpa using Ne.symm HB.out.n3)).clear HB.out.n1)
  have HM1 : Hid (Ways ((w.setCell ⟨Γ.S, 2, none⟩ (.int .i64 ((t : Int) + 1))).setCell ⟨B, 1, none⟩ (.int .i64 0)) A LA Γ.D.length L) :=
    hd (HLA.out.bl (((Bl.refl _ [Γ.S, B]).set ⟨Γ.S, 2, none⟩ (by simp) _).set ⟨B, 1, none⟩ (by simp) _) (by simpa using ⟨Ne.symm HA.out.n2, HAB.out.1⟩) (by simpa using ⟨Ne.symm HA.out.n3, HAB.out.2.2.1⟩))
  have HBl : Hid (Bl w ((w.setCell ⟨Γ.S, 2, none⟩ (.int .i64 ((t : Int) + 1))).setCell ⟨B, 1, none⟩ (.int .i64 0)) (Γb Γ B LB)) := hd (((Bl.refl _ _).set _ (by simp) _).set _ (by simp) _)
  generalize (w.setCell ⟨Γ.S, 2, none⟩ (.int .i64 ((t : Int) + 1))).setCell ⟨B, 1, none⟩ (.int .i64 0) = W0 at HS1 HL1 HM1 HBl ⊢
  clear HS HLA HLB s2 f2 b1 g1
  have hset : ∀ x ∈ Γb Γ B LB, True := fun _ _ => trivial
  clear hset
  go_loopw [8] (fun iv wr => ∃ (k : Nat) (s : Sx), iv = .int .i64 k ∧ k ≤ L.length ∧ Hid (Mid Γ.ln.data.toList Γ.D Γ.e f0 t L fd a b k s) ∧ Sh wr Γ (t + 1) s.sn s.fd s.a s.b ∧ Ways wr B LB Γ.D.length s.li ∧ Ways wr A LA Γ.D.length L ∧ Hid (Bl w wr (Γb Γ B LB))) (fun iv _ => (L.length - (intOf iv).toNat))
  case atStart => exact ⟨0, ⟨sn, [], fd, a, b⟩, rfl, Nat.zero_le _, hd (Mid.start Hhi.out rfl rfl rfl rfl), HS1.out, HL1.out, HM1.out, HBl⟩
  case round =>
    obtain ⟨k, s, rfl, hk, HMi, hS, hLB, hLA, HBr⟩ := hrel
    have a0 := hLA.a0
    have a1 := hLA.a1
    have s0 := hS.s0
    have s4 := hS.s4
    have s5 := hS.s5
    have p0 := hS.p0
    by_cases hlt2 : k < L.length
    · obtain ⟨x, hx⟩ : ∃ x, L[k]? = some x := ⟨L[k], List.getElem?_eq_getElem hlt2⟩
      obtain ⟨l0, l1⟩ := hLA.el k x hx
      have hxs := HP.out.snd x (List.mem_of_getElem? hx)
      obtain ⟨f, m, hst⟩ := hxs.2.2.2
      have hksz : k < Γ.D.length := by omega
      have k0 : (0 : Int) ≤ (k : Int) := by omega
      have k1 : (k : Int) < (L.length : Int) := by omega
      have k2 : (k : Int) < (Γ.D.length : Int) := by omega
      have hlA := World.block_lt_of_cell? wr _ a0
      have hlS := World.block_lt_of_cell? wr _ s0
      go_wp2
      have hS1 := hS.bl ((Bl.refl wr []).alloc (.cells #[.int .i64 x.1, .int .i64 x.2] 150)) (by simp) (by simp) (by simp) (by simp)
      have hLB1 := hLB.alloc (.cells #[.int .i64 x.1, .int .i64 x.2] 150)
      have hLA1 := hLA.alloc (.cells #[.int .i64 x.1, .int .i64 x.2] 150)
      have HBr1 := hd (HBr.out.alloc (.cells #[.int .i64 x.1, .int .i64 x.2] 150))
      have hT : (wr.alloc (.cells #[.int .i64 x.1, .int .i64 x.2] 150)).cell? ⟨wr.heap.size, 0, none⟩ = some (.int .i64 x.1) ∧ (wr.alloc (.cells #[.int .i64 x.1, .int .i64 x.2] 150)).cell? ⟨wr.heap.size, 1, none⟩ = some (.int .i64 x.2) := ⟨by simp, by simp⟩
      have hTn : wr.heap.size ∉ Γb Γ B LB := by
        have e1 := World.block_lt_of_cell? wr _ hS.s0
        have e2 := World.block_lt_of_cell? wr _ hLB.a0
        have e3 := World.block_lt_of_cell? wr _ (hS.sn 0 _ (List.getElem?_eq_getElem (show 0 < s.sn.length by rw [hS.snl]; omega))).1
        obtain ⟨u, hu⟩ := (hLB.room 0 (by omega)).1
        have e4 := World.block_lt_of_cell? wr _ hu
        simp only at e1 e2 e3 e4
        simp
        omega
      generalize wr.alloc (.cells #[.int .i64 x.1, .int .i64 x.2] 150) = W at hS1 hLB1 hLA1 HBr1 hT ⊢
      generalize wr.heap.size = T at hT hTn ⊢
      obtain ⟨t0, t1⟩ := hT
      clear hS hLB hLA HBr a0 a1 s0 s4 s5 p0 l0 l1 hlA hlS
      have s0 := hS1.s0
      have s4 := hS1.s4
      have s5 := hS1.s5
      have p0 := hS1.p0
      obtain ⟨st0, st9, hset⟩ := hS1.st x.1 _ hst
      have hx1 : x.1 < Γ.D.length := (List.getElem?_eq_some_iff.1 hst).1
      have x0 : (0 : Int) ≤ (x.1 : Int) := by omega
      have x1 : (x.1 : Int) < (Γ.D.length : Int) := by omega
      by_cases hpr : s.fd = true ∧ s.a < x.2
      · obtain ⟨hf, hlt3⟩ := hpr
        have hlt4 : (s.a : Int) < (x.2 : Int) := by omega
        rw [hf] at s4
        go_quiet (fail)
        go_wp2
        refine bodyPost_ret (v := .tuple #[]) (by simp [results, Tryd.results42, go_sem]) rfl ?_
        refine ⟨rfl, s, HMi.out.stop HP.out hf (fun y hy => ?_), HMi.out.hi, ?_, hS1.drewN, hLB1.drewN, hLA1.drewN, HBr1.out.drewN⟩
        · rw [drop_mem hx] at hy
          rcases List.mem_cons.1 hy with rfl | hy
          · exact hlt3
          · have hp := HP.out.srt
            rw [← List.take_append_drop k L, drop_mem hx] at hp
            have := (List.pairwise_cons.1 (List.pairwise_append.1 hp).2.1).1 y hy
            omega
        · have h1 := HMi.out.cnt
          have h2 : s.sn.count (t + 2) ≤ s.sn.length := List.count_le_length
          rw [hS1.snl] at h2
          omega
      · have Hpr := hd hpr
        cases hfd : s.fd
        · rw [hfd] at s4
          clear hpr
          go_quiet (fail)
          revert nq
          intro nqa
          go_wp2
          go_quiet (fail)
          go_wp2_with fail
          have hS2 := hS1.drewN (n := nqa + nq)
          have hLB2 := hLB1.drewN (n := nqa + nq)
          have hLA2 := hLA1.drewN (n := nqa + nq)
          have HBr2 := hd (HBr1.out.drewN (n := nqa + nq))
          have t0' : (W.drewN (nqa + nq)).cell? ⟨T, 0, none⟩ = some (.int .i64 x.1) := t0
          have t1' : (W.drewN (nqa + nq)).cell? ⟨T, 1, none⟩ = some (.int .i64 x.2) := t1
          have hset' : SetIs (W.drewN (nqa + nq)) Γ.G (x.1 * 14 + 1) f := hset
          have st9' : (W.drewN (nqa + nq)).cell? ⟨Γ.G, x.1 * 14 + 10, none⟩ = some (.int .i64 m) := st9
          skip
          generalize W.drewN (nqa + nq) = W2 at hS2 hLB2 hLA2 HBr2 t0' t1' hset' st9' ⊢
          clear hS1 hLB1 hLA1 HBr1 t0 t1 hset st0 st9 s0 s4 s5 p0
          have Hhas := hd (has_any Γ.G (x.1 * 14 + 1) (ch Γ.ln.data.toList t) f W2 (ch_lt _ _) hset')
          cases hf : f (ch Γ.ln.data.toList t)
          · rw [hf] at Hhas
            refine Hhas.out.mono ?_
            rintro e w3 ⟨rfl, rfl⟩
            go_wp2
            go_roundw
            case rel => exact ⟨k + 1, s, by go_num, by omega, hd (HMi.out.skip hx hst hf), hS2, hLB2, hLA2, HBr2⟩
            case measure => simp [intOf]; omega
          · rw [hf] at Hhas
            refine Hhas.out.mono ?_
            rintro e w3 ⟨rfl, rfl⟩
            have Hent := hd (fun W3 (h1 : Sh W3 Γ (t + 1) s.sn s.fd s.a s.b) (h2 : Ways W3 B LB Γ.D.length s.li) => enter_any Γ B LB (t + 1) x.2 HB.out HW.out hD (by omega) (by omega) W3 s m (HW.out x.1 _ hst) HMi.out.hi HMi.out.cnt h1 h2)
            have Hgo := hd (fun s' (h : Ent Γ.ln.data.toList Γ.D (t + 1) x.2 m (fun _ => False) s s') => HMi.out.go HP.out hx hst hf (by rw [len_data]; exact ht) Hu.out H0.out Hpr.out h)
            go_wp2
            go_region_with ((go_at_call 41; refine (Hent.out _ (by exact hS2.drew) (by exact hLB2.drew)).mono ?_; rintro e w4 ⟨rfl, s4', hE4, hS4, hLB4, hB4⟩))
            all_goals
              have hMi4 := hd (Hgo.out s4' hE4)
              have hLA4 := hLA2.drew.bl hB4 (by simpa using ⟨Ne.symm HA.out.n2, Ne.symm HA.out.n4, HAB.out.1, HAB.out.2.1⟩) (by simpa using ⟨Ne.symm HA.out.n3, Ne.symm HA.out.n5, HAB.out.2.2.1, HAB.out.2.2.2⟩)
              have HB4 := hd (HBr2.out.drew.trans hB4)
              clear hE4 hB4
              go_wp2
              go_roundw
              case rel => exact ⟨k + 1, s4', by go_num, by omega, hMi4, hS4, hLB4, hLA4, HB4⟩
              case measure => simp [intOf]; omega
        · have hna : ¬ (s.a : Int) < (x.2 : Int) := fun h => Hpr.out ⟨hfd, by omega⟩
          have hnd : decide ((s.a : Int) < (x.2 : Int)) = false := by simp; omega
          rw [hfd] at s4
          clear hpr
          go_quiet (fail)
          revert nq
          intro nqa
          go_wp2
          go_quiet (fail)
          go_wp2_with fail
          have hS2 := hS1.drewN (n := nqa + nq)
          have hLB2 := hLB1.drewN (n := nqa + nq)
          have hLA2 := hLA1.drewN (n := nqa + nq)
          have HBr2 := hd (HBr1.out.drewN (n := nqa + nq))
          have t0' : (W.drewN (nqa + nq)).cell? ⟨T, 0, none⟩ = some (.int .i64 x.1) := t0
          have t1' : (W.drewN (nqa + nq)).cell? ⟨T, 1, none⟩ = some (.int .i64 x.2) := t1
          have hset' : SetIs (W.drewN (nqa + nq)) Γ.G (x.1 * 14 + 1) f := hset
          have st9' : (W.drewN (nqa + nq)).cell? ⟨Γ.G, x.1 * 14 + 10, none⟩ = some (.int .i64 m) := st9
          skip
          generalize W.drewN (nqa + nq) = W2 at hS2 hLB2 hLA2 HBr2 t0' t1' hset' st9' ⊢
          clear hS1 hLB1 hLA1 HBr1 t0 t1 hset st0 st9 s0 s4 s5 p0
          have Hhas := hd (has_any Γ.G (x.1 * 14 + 1) (ch Γ.ln.data.toList t) f W2 (ch_lt _ _) hset')
          cases hf : f (ch Γ.ln.data.toList t)
          · rw [hf] at Hhas
            refine Hhas.out.mono ?_
            rintro e w3 ⟨rfl, rfl⟩
            go_wp2
            go_roundw
            case rel => exact ⟨k + 1, s, by go_num, by omega, hd (HMi.out.skip hx hst hf), hS2, hLB2, hLA2, HBr2⟩
            case measure => simp [intOf]; omega
          · rw [hf] at Hhas
            refine Hhas.out.mono ?_
            rintro e w3 ⟨rfl, rfl⟩
            have Hent := hd (fun W3 (h1 : Sh W3 Γ (t + 1) s.sn s.fd s.a s.b) (h2 : Ways W3 B LB Γ.D.length s.li) => enter_any Γ B LB (t + 1) x.2 HB.out HW.out hD (by omega) (by omega) W3 s m (HW.out x.1 _ hst) HMi.out.hi HMi.out.cnt h1 h2)
            have Hgo := hd (fun s' (h : Ent Γ.ln.data.toList Γ.D (t + 1) x.2 m (fun _ => False) s s') => HMi.out.go HP.out hx hst hf (by rw [len_data]; exact ht) Hu.out H0.out Hpr.out h)
            go_wp2
            go_region_with ((go_at_call 41; refine (Hent.out _ (by exact hS2.drew) (by exact hLB2.drew)).mono ?_; rintro e w4 ⟨rfl, s4', hE4, hS4, hLB4, hB4⟩))
            all_goals
              have hMi4 := hd (Hgo.out s4' hE4)
              have hLA4 := hLA2.drew.bl hB4 (by simpa using ⟨Ne.symm HA.out.n2, Ne.symm HA.out.n4, HAB.out.1, HAB.out.2.1⟩) (by simpa using ⟨Ne.symm HA.out.n3, Ne.symm HA.out.n5, HAB.out.2.2.1, HAB.out.2.2.2⟩)
              have HB4 := hd (HBr2.out.drew.trans hB4)
              clear hE4 hB4
              go_wp2
              go_roundw
              case rel => exact ⟨k + 1, s4', by go_num, by omega, hMi4, hS4, hLB4, hLA4, HB4⟩
              case measure => simp [intOf]; omega
    · have hke : k = L.length := by omega
      subst hke
      cases hf : s.fd
      · rw [hf] at s4
        have s2 := hS.s2
        have p1 := hS.p1
        have Hent := hd (fun W3 (h1 : Sh W3 Γ (t + 1) s.sn s.fd s.a s.b) (h2 : Ways W3 B LB Γ.D.length s.li) => enter_any Γ B LB (t + 1) (t + 1) HB.out HW.out hD (by omega) (by omega) W3 s Γ.e he HMi.out.hi HMi.out.cnt h1 h2)
        have Hgo := hd (fun s' (h : Ent Γ.ln.data.toList Γ.D (t + 1) (t + 1) Γ.e (fun _ => False) s s') => HMi.out.more HP.out hf (by omega) Hu.out H0.out h)
        go_wp2
        go_region_with ((go_at_call 41; refine (Hent.out _ (by exact hS.drew) (by exact hLB.drew)).mono ?_; rintro e w4 ⟨rfl, s4', hE4, hS4, hLB4, hB4⟩))
        all_goals
          obtain ⟨hP4, hh4, hc4⟩ := Hgo.out s4' hE4
          have hLA4 := hLA.drew.bl hB4 (by simpa using ⟨Ne.symm HA.out.n2, Ne.symm HA.out.n4, HAB.out.1, HAB.out.2.1⟩) (by simpa using ⟨Ne.symm HA.out.n3, Ne.symm HA.out.n5, HAB.out.2.2.1, HAB.out.2.2.2⟩)
          have HB4 := hd (HBr.out.drew.trans hB4)
          have HF : Hid (PaPost Γ A LA B LB f0 t L w w4 (.returned (.tuple #[]))) := hd ⟨rfl, s4', hP4, hh4, by
            have h2 : s4'.sn.count (t + 2) ≤ s4'.sn.length := List.count_le_length
            rw [hS4.snl] at h2
            omega, hS4, hLB4, hLA4, HB4.out⟩
          clear hE4 hB4 hP4 hh4 hc4 hS4 hLB4 hLA4
          go_wp2
          go_end0
          exact HF.out
      · rw [hf] at s4
        go_wp2
        go_end0
        refine ⟨rfl, s, HMi.out.stop HP.out hf (fun y hy => by rw [List.drop_length] at hy; simp at hy), HMi.out.hi, ?_, hS, hLB, hLA, HBr.out⟩
        have h1 := HMi.out.cnt
        have h2 : s.sn.count (t + 2) ≤ s.sn.length := List.count_le_length
        rw [hS.snl] at h2
        omega
end Go.Proofs.YtldiemjlpnachaaDoor
