/- The document's reader: rows that are being read. -/
import Derived.Test.YtjgafakfpcgpjaaDoorRItm4
namespace Go.Proofs.YtjgafakfpcgpjaaDoor
open Go.RowKit

def ptr (b : Nat) : Value := .pointer (some ⟨b, 0, none⟩)
/-- item by item -/
def AllR (H : Fins) : List Nat → List (Int × Int) → Prop
  | [], [] => True
  | b :: bs, i :: is => (∃ d, RItemOk H d b i) ∧ AllR H bs is
  | _, _ => False
theorem AllR.length {H : Fins} : ∀ {bs : List Nat} {is : List (Int × Int)}, AllR H bs is → bs.length = is.length
  | [], [], _ => rfl
  | _ :: _, _ :: _, h => by rw [List.length_cons, List.length_cons, AllR.length h.2]
  | [], _ :: _, h => h.elim
  | _ :: _, [], h => h.elim
theorem AllR.mono {H H' : Fins} (hH : ∀ g arr, H g = some arr → H' g = some arr) : ∀ {bs : List Nat} {is : List (Int × Int)}, AllR H bs is → AllR H' bs is
  | [], [], _ => trivial
  | _ :: _, _ :: _, ⟨⟨d, h⟩, r⟩ => ⟨⟨d, h.mono hH⟩, AllR.mono hH r⟩
  | [], _ :: _, h => h.elim
  | _ :: _, [], h => h.elim
theorem AllR.snoc {H : Fins} {b : Nat} {i : Int × Int} (hb : ∃ d, RItemOk H d b i) : ∀ {bs : List Nat} {is : List (Int × Int)}, AllR H bs is → AllR H (bs ++ [b]) (is ++ [i])
  | [], [], _ => ⟨hb, trivial⟩
  | _ :: _, _ :: _, h => ⟨h.1, AllR.snoc hb h.2⟩
  | [], _ :: _, h => h.elim
  | _ :: _, [], h => h.elim
theorem AllR.unsnoc {H : Fins} {i : Int × Int} : ∀ {bs : List Nat} {is : List (Int × Int)}, AllR H bs (is ++ [i]) → ∃ bs' b, bs = bs' ++ [b] ∧ AllR H bs' is ∧ ∃ d, RItemOk H d b i
  | [], [], h => h.elim
  | [], _ :: _, h => h.elim
  | [b], [], h => ⟨[], b, rfl, trivial, h.1⟩
  | _ :: _ :: _, [], h => h.2.elim
  | b :: bs, j :: is, h => by
    obtain ⟨bs', b', rfl, h1, h2⟩ := AllR.unsnoc (bs := bs) (is := is) h.2
    exact ⟨b :: bs', b', rfl, ⟨h.1, h1⟩, h2⟩
theorem RItemOk.succ {H : Fins} : ∀ {d b : Nat} {it : Int × Int}, RItemOk H d b it → RItemOk H (d + 1) b it
  | 0, _, _, h => h.elim
  | d + 1, b, it, ⟨arr, h1, h2, h3, h4, h⟩ => by
    refine ⟨arr, h1, h2, h3, h4, ?_⟩
    rcases h with h | ⟨e, ha, ao, rn, rc, its, hs, ⟨r1, r2, r3⟩, hz⟩ | ⟨e, ha, q, qi, m, n, k1, k2, k3, b1, b2, b3, b4, hq, hz⟩
    · exact .inl h
    · refine .inr (.inl ⟨e, ha, ao, rn, rc, its, hs, ⟨r1, r2, ?_⟩, hz⟩)
      rcases r3 with r3 | ⟨g, a2, hg, hh, hi⟩
      · exact .inl r3
      · exact .inr ⟨g, a2, hg, hh, fun i hi' => by obtain ⟨bb, hb, ho⟩ := hi i hi'; exact ⟨bb, hb, RItemOk.succ ho⟩⟩
    · exact .inr (.inr ⟨e, ha, q, qi, m, n, k1, k2, k3, b1, b2, b3, b4, RItemOk.succ hq, hz⟩)
theorem RItemOk.le {H : Fins} {d b : Nat} {it : Int × Int} (h : RItemOk H d b it) : ∀ k, RItemOk H (d + k) b it
  | 0 => h
  | k + 1 => (RItemOk.le h k).succ
theorem AllR.deep {H : Fins} : ∀ {bs : List Nat} {is : List (Int × Int)}, AllR H bs is → ∃ D, ∀ i (h : i < is.length), ∃ b, bs[i]? = some b ∧ RItemOk H D b is[i]
  | [], [], _ => ⟨0, fun i h => absurd h (by simp)⟩
  | b :: bs, j :: is, ⟨⟨d, h⟩, r⟩ => by
    obtain ⟨D, hD⟩ := AllR.deep r
    refine ⟨d + D, fun i hi => ?_⟩
    cases i with
    | zero => exact ⟨b, rfl, h.le D⟩
    | succ i =>
      obtain ⟨c, hc, hok⟩ := hD i (by simpa using hi)
      exact ⟨c, by simpa using hc, by rw [Nat.add_comm]; exact hok.le d⟩
  | [], _ :: _, h => h.elim
  | _ :: _, [], h => h.elim
theorem AllR.pos {H : Fins} : ∀ {bs : List Nat} {is : List (Int × Int)}, AllR H bs is → ∀ y ∈ is, 1 ≤ y.2
  | [], [], _ => by simp
  | _ :: _, i :: is, ⟨⟨d, h⟩, r⟩ => fun y hy => by
    rcases List.mem_cons.1 hy with rfl | hy
    · exact h.bd.1
    · exact AllR.pos r y hy
  | [], _ :: _, h => h.elim
  | _ :: _, [], h => h.elim
theorem sumSz_pos : ∀ (l : List (Int × Int)), (∀ y ∈ l, 1 ≤ y.2) → 0 ≤ sumSz (l.map (·.2))
  | [], _ => Int.le_refl 0
  | x :: r, h => by have := h x (by simp); have := sumSz_pos r (fun y hy => h y (by simp [hy])); rw [List.map_cons, sumSz]; omega

/-- a row that is being read: its pointers, its items -/
structure RLive (w : World) (R P : Nat) (H : Fins) (vo v : Value) (bs : List Nat) (its : List (Int × Int)) : Prop where
  own : w.ownsRow 0 60 1 v its.length (bs.map ptr)
  all : AllR H bs its
  nR : v.ownBlock ≠ some R
  nP : v.ownBlock ≠ some P
  no : ∀ g, v.ownBlock = some g → vo.ownBlock ≠ some g
  nH : ∀ g, v.ownBlock = some g → H g = none
def KRow (l : List UInt8) (j : Nat) (its : List (Int × Int)) (σ' : St) : Prop := RelL σ'.inner.items its ∧ (j < l.length → sw l j [92, 41] = true)
def RowPost (w w' : World) (r : Ending) (R P : Nat) (s : ByteArray) (H : Fins) (vo : Value) (σ : St) : Prop :=
  ∃ (ao : Option Addr) (rc j : Nat) (bs : List Nat) (its : List (Int × Int)) (τ' : RSt) (H' : Fins) (vo' : Value), r = .returned (.tuple #[.slice ao its.length rc, .int .i64 j]) ∧ Rg w' R P s H' vo' τ' ∧ Kp w w' R P vo vo' ∧ HG w H H' ∧ RLive w' R P H' vo' (.slice ao its.length rc) bs its ∧
    (∀ g, (Value.slice ao its.length rc).ownBlock = some g → w.heap.size ≤ g) ∧ σ.pos ≤ j ∧ j ≤ s.size ∧ sumSz (its.map (·.2)) ≤ 21002 * ((j - σ.pos : Nat) : Int) ∧ its.length ≤ j - σ.pos ∧ Res s.data.toList σ j τ' (KRow s.data.toList j its)
def RowSpec (s : ByteArray) (f : Nat) : Prop := ∀ (w : World) (R P : Nat) (H : Fins) (vo : Value) (τ : RSt) (σ : St) (i : Int), Rg w R P s H vo τ → Sim σ τ → ClsH H → s.size ≤ 60 → σ.pos ≤ s.size → σ.inner.items = [] → s.size < σ.pos + f → i = σ.pos →
    Calls Tryd.prog 10 #[.pointer (some ⟨R, 0, none⟩), .int .i64 i] w fun r w' => RowPost w w' r R P s H vo σ

theorem info_int : (Tryd.prog.info? 3).map (fun i => (i.zero, i.size, i.bytes)) = some (some (.int .i64 0), 1, 8) := by kernel_rfl
theorem info_ptr : (Tryd.prog.info? 60).map (fun i => (i.zero, i.size, i.bytes)) = some (some (.pointer none), 1, 8) := by kernel_rfl
theorem uInts : Tryd.prog.underlying 45 = some (.slice 3) := by kernel_rfl
theorem uPtrs : Tryd.prog.underlying 28 = some (.slice 60) := by kernel_rfl

/-- a row that is done becomes a finished block -/
theorem RLive.finish {w : World} {R P : Nat} {s : ByteArray} {H : Fins} {vo : Value} {τ : RSt} {ao : Option Addr} {rc : Nat} {bs : List Nat} {its : List (Int × Int)} (hr : Rg w R P s H vo τ) (h : RLive w R P H vo (.slice ao its.length rc) bs its) (hl : its.length ≤ 1000) :
    ∃ H' d, Rg w R P s H' vo τ ∧ (∀ g arr, H g = some arr → H' g = some arr) ∧ (∀ g, H' g ≠ none → H g ≠ none ∨ (Value.slice ao its.length rc).ownBlock = some g) ∧ RRow (RItemOk H' d) H' ao its.length its := by
  rcases h.own.2 with ⟨hv, h0⟩ | ⟨g, cap, cur, hv, _, hg, h1, h2, h3, h4⟩
  · exact ⟨H, 0, hr, fun _ _ h => h, fun _ h => .inl h, rfl, hl, .inl h0⟩
  · simp only [Value.slice.injEq, true_and] at hv
    obtain ⟨rfl, rfl⟩ := hv
    have hH := h.nH g rfl
    have hmono : ∀ g' a, H g' = some a → (fun k => if k = g then some cur else H k) g' = some a := by
      intro g' a ha
      by_cases e : g' = g
      · subst e; rw [hH] at ha; cases ha
      · simp [e]; exact ha
    obtain ⟨D, hD⟩ := (h.all.mono hmono).deep
    refine ⟨_, D, hr.finish g cur _ hg hH (fun e => h.nR (by rw [e]; rfl)) (fun e => h.nP (by rw [e]; rfl)) (h.no g rfl), hmono, fun g' hg' => ?_, rfl, hl, .inr ⟨g, cur, rfl, by simp, fun i hi => ?_⟩⟩
    · by_cases e : g' = g
      · subst e; exact .inr rfl
      · simp [e] at hg'; exact .inl hg'
    · obtain ⟨b, hb, hok⟩ := hD i hi
      refine ⟨b, ?_, hok⟩
      have : (bs.map ptr)[i]? = some (ptr b) := by rw [List.getElem?_map, hb]; rfl
      rw [← h4, List.getElem?_take_of_lt (by omega)] at this
      simpa [ptr] using this
end Go.Proofs.YtjgafakfpcgpjaaDoor
