import Derived.Test.YtjgafakfpcgpjabDoorStrs
import Derived.Test.YtjgafakfpcgpjabDoorFr
import Derived.Test.YtjgafakfpcgpjabDoorLots
namespace Go.Proofs.YtjgafakfpcgpjabDoor
open Go.RowKit

def aN (k : Nat) : ByteArray := ⟨Array.replicate k 97⟩
theorem aN_size (k : Nat) : (aN k).size = k := by simp [aN, ByteArray.size]
theorem aN_succ (k : Nat) : aN k ++ (⟨#[97]⟩ : ByteArray) = aN (k + 1) := by
  apply ByteArray.ext
  rw [ByteArray.data_append]
  simp [aN, Array.replicate_succ]

set_option maxHeartbeats 800000 in
theorem pick_any (c : Int) (w : World) (h0 : -9223372036854775808 ≤ c) (h1 : c ≤ 9223372036854775807) :
    Calls Tryd.prog 5 #[.int .i64 c, .int .i64 63] w fun e w' => (∃ i : Nat, i < 63 ∧ e = .returned (.int .i64 i)) ∧ w' = w := by
  by_cases hc : c < 0
  · go_enter Tryd.func5, Tryd.ntmps5
    go_wp2
    go_ret
    refine ⟨⟨((-(c + 1)) % 63).toNat, by omega, ?_⟩, rfl⟩
    have e : -((c + 1).tmod 63) = (((-(c + 1)) % 63).toNat : Int) := by
      rw [← Int.neg_tmod, Int.tmod_eq_emod_of_nonneg (by omega)]
      omega
    show Ending.returned (.int .i64 (-((c + 1).tmod 63))) = _
    rw [e]
  · go_enter Tryd.func5, Tryd.ntmps5
    go_wp2
    go_ret
    refine ⟨⟨(c % 63).toNat, by omega, ?_⟩, rfl⟩
    show Ending.returned (.int .i64 (c % 63)) = _
    rw [show c % 63 = ((c % 63).toNat : Int) by omega]
    simp

/-- straight operations, run -/
def runSt (P : Program) : List Oper → Act → World → Option (Act × World)
  | [], a, w => some (a, w)
  | o :: rest, a, w =>
    match o.guard with
    | none => match (execOp a.eval o).run P w with
      | .ok (.value v) w' => runSt P rest (a.put o.dst v) w'
      | .ok .skip w' => runSt P rest (a.put o.dst undef) w'
      | _ => none
    | some _ => none

theorem wpList_runSt {P : Program} {ops : Array Oper} {Q : Exit → Act → World → Prop} {a' : Act} {w' : World} :
    ∀ (l : List Oper) (a : Act) (w : World), runSt P l a w = some (a', w') → Q .normal a' w' → wpList P ops Q l a w := by
  intro l
  induction l with
  | nil => intro a w h hq; simp only [runSt, Option.some.injEq, Prod.mk.injEq] at h; obtain ⟨rfl, rfl⟩ := h; exact hq
  | cons o rest ih =>
    intro a w h hq
    unfold runSt at h
    split at h
    · rename_i hg
      refine wpList_plain hg fun K hK => ?_
      unfold Oper.wp
      split at h
      · rename_i v w2 he
        rw [he, Oper.upon_value]
        exact hK _ _ (ih _ _ h hq)
      · rename_i w2 he
        rw [he, Oper.upon_skip]
        exact hK _ _ (ih _ _ h hq)
      · cases h
    · cases h

theorem wpList_runSt_ret {P : Program} {ops : Array Oper} {Q : Exit → Act → World → Prop} {l : List Oper} {a : Act} {w : World} (v : Value) (W : World)
    (h : (runSt P l a w).map (fun p => (p.1.tmps.getD 0 undef, p.1.defers, p.2)) = some (v, [], W))
    (hq : ∀ a', a'.tmps.getD 0 undef = v → a'.defers = [] → Q .normal a' W) : wpList P ops Q l a w := by
  cases hr : runSt P l a w with
  | none => rw [hr] at h; cases h
  | some p =>
    obtain ⟨a', w'⟩ := p
    rw [hr] at h
    simp only [Option.map_some, Option.some.injEq, Prod.mk.injEq] at h
    obtain ⟨h1, h2, rfl⟩ := h
    exact wpList_runSt l a w hr (hq a' h1 h2)

def aLen (v : Value) : Nat := match v with | .string t => 60 - t.size | _ => 0
theorem aLen_aN (k : Nat) : aLen (.string (aN k)) = 60 - k := by simp [aLen, aN_size]

/-- the cells of the table -/
def lotCells : Array Value := (lots.flatMap fun x => [Value.string ⟨x.1.toArray⟩, .int .i64 x.2.1, .int .i64 x.2.2]).toArray

set_option maxRecDepth 100000 in
set_option maxHeartbeats 1600000 in
theorem faults_any (w : World) :
    Calls Tryd.prog 4 #[] w fun e w' => e = .returned (.slice (some ⟨w.heap.size, 0, none⟩) 63 63) ∧ w' = w.alloc (.cells lotCells 26) := by
  go_enter Tryd.func4, Tryd.ntmps4
  go_wp2
  go_loop [1] (fun s => ∃ k : Nat, k ≤ 60 ∧ s = .string (aN k)) (fun s => aLen s)
  case atStart => exact ⟨0, by omega, rfl⟩
  case round =>
    obtain ⟨k, hk, rfl⟩ := hrel
    have hsz := aN_size k
    by_cases hlt : k < 60
    · have Hsuc := hd (aN_succ k)
      have HL := hd (aLen_aN k)
      have HL2 := hd (aLen_aN (k + 1))
      generalize aN k = A at *
      go_wp2_with fail
      go_round
      case rel => exact ⟨k + 1, by omega, by rw [← Hsuc.out]⟩
      case measure =>
        show aLen (.string (A ++ _)) < aLen (.string A)
        rw [Hsuc.out, HL.out, HL2.out]; omega
    · obtain rfl : k = 60 := by omega
      go_upto_region 4 with fail
      refine wp_region_list ?_
      refine wpList_runSt_ret (.slice (some ⟨w.heap.size, 0, none⟩) 63 63) (w.alloc (.cells lotCells 26)) (by kernel_rfl) fun a' h1 h2 => ?_
      go_wp2
      refine bodyPost_ret (v := .slice (some ⟨w.heap.size, 0, none⟩) 63 63) ?_ h2 ⟨rfl, rfl⟩
      simp only [Array.getD_eq_getD_getElem?] at h1
      simp [results, Tryd.results4, go_sem]
      exact h1
end Go.Proofs.YtjgafakfpcgpjabDoor
