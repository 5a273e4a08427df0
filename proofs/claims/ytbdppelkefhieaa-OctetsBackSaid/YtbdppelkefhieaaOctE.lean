/-
  What Try does: a reading that ends, one that stops.
-/
import Derived.Test.YtbdppelkefhieaaOctD
import Derived.Defers
import Derived.Recover
import Derived.Laws.Pointers
namespace Go.Proofs.Ytbdppelkefhieaa.octC
open Go.ChangeShapes Go.WideShapes Go.ChangeAt Go.RowKit
open Go.Proofs.Ytbdppelkefhieaa.memC
set_option linter.unusedVariables false

theorem catch_idle (p : Addr) (w : World) :
    CallsD Try.prog 34 #[.pointer (some p)] .returning w fun e u' w' => e = .returned (.tuple #[]) ∧ u' = .returning ∧ w' = w := by
  refine callsD_of_wpS Try.func34 rfl fun c₀ cs hu => ?_
  apply wpS_seq
  apply wpS_region
  simp [wpOpsS, go_sem, recoverD, hu, Try.ntmps34, Exit.thenS]
  refine wpS_of_wp ?_
  go_wp2
  all_goals
    cases c₀
    simp_all [bodyPostS, results, Try.results34]
theorem assert_stop (w : World) : (Instr.typeAssert (.iface 57 (.agg #[])) 20 57 true).run Try.prog w = .ok (.tuple #[.agg #[], .bool true]) w := by kernel_rfl
set_option maxHeartbeats 1000000 in
theorem catch_stop (p : Addr) (x : Value) (older : List PanicEntry) (w : World) (hp : p.block < w.heap.size) (hc : w.cell? p = some x) (hz : w.frozen? p = false) :
    CallsD Try.prog 34 #[.pointer (some p)] (.panicking ({ v := .iface 57 (.agg #[]), recovered := false } :: older)) w fun e u' w' =>
      e = .returned (.tuple #[]) ∧ u' = .panicking ({ v := .iface 57 (.agg #[]), recovered := true } :: older) ∧ w' = (w.alloc (.cells #[] 57)).setCell p (.int .i64 4) := by
  have hc' : (w.alloc (.cells #[] 57)).cell? p = some x := (World.cell?_alloc_lt w _ p hp).trans hc
  have hz' : (w.alloc (.cells #[] 57)).frozen? p = false := (((Below.refl w.heap.size w).alloc (Nat.le_refl _) _).frozen hp).trans hz
  clear hc hz
  refine callsD_of_wpS Try.func34 rfl fun c₀ cs hu => ?_
  apply wpS_seq
  apply wpS_region
  simp [wpOpsS, go_sem, recoverD, hu, Try.ntmps34, Exit.thenS]
  refine wpS_of_wp ?_
  change Code.wp _ _ _ ⟨#[.pointer (some p), .iface 57 (.agg #[]), undef, undef, .iface 57 (.agg #[]), undef, undef, undef, undef, undef, undef, undef, undef, undef, undef], []⟩ _
  have hta := assert_stop
  go_wp2
  all_goals
    cases c₀
    simp_all [bodyPostS, results, Try.results34]
/-- what a reading leaves: the result's variable is as it was -/
def Kept (w w1 : World) : Prop := w1.cell? ⟨w.heap.size, 0, none⟩ = some (.int .i64 0) ∧ w1.frozen? ⟨w.heap.size, 0, none⟩ = false
set_option maxHeartbeats 1000000 in
theorem try_ok (K : FuncId) (cap : Array Value) (w : World) (Q : World → Prop)
    (hent : ∀ w : World, (callFunc K cap).run Try.prog w = .ok (.enter K cap) w)
    (hk : Calls Try.prog K cap (w.alloc (.cells #[.int .i64 0] 31)) fun e w' => e = .returned (.tuple #[]) ∧ Q w')
    (hq : ∀ w', Q w' → Kept w w') :
    Calls Try.prog 20 #[.func (.func K) #[] cap] w fun e w' => e = .returned (.int .i64 0) ∧ ∃ w1, Q w1 ∧ w' = w1.setCell ⟨w.heap.size, 0, none⟩ (.int .i64 0) := by
  have hmf : ∀ (fn : Fn) (first cap : Array Value) (w : World), (Instr.makeFunc fn first cap).run Try.prog w = .ok (.func fn first cap) w := fun _ _ _ _ => rfl
  have hne : ∀ w : World, (binOp .eql 1 (.func (.func K) #[] cap) .nilFunc).run Try.prog w = .ok (.bool false) w := fun _ => by rfl
  go_enter_defers Try.func20, Try.ntmps20
  go_wp2_with (refine hk.mono ?_; rintro e w1 ⟨rfl, hQ⟩; obtain ⟨hc, hz⟩ := hq _ hQ)
  refine leaves_cons (f := 34) (args := #[.pointer (some ⟨w.heap.size, 0, none⟩)]) (by simp) (by simp [go_sem]) ?_
  refine (catch_idle ⟨w.heap.size, 0, none⟩ _).mono ?_
  rintro e u' w'' ⟨rfl, rfl, rfl⟩
  simp [Leaves, settle, results, Try.results20, go_sem, hc]
  exact ⟨w1, hQ, rfl⟩
set_option maxHeartbeats 1000000 in
theorem try_stop (K : FuncId) (cap : Array Value) (w : World) (Q : World → Prop)
    (hent : ∀ w : World, (callFunc K cap).run Try.prog w = .ok (.enter K cap) w)
    (hk : Calls Try.prog K cap (w.alloc (.cells #[.int .i64 0] 31)) fun e w' => e = stopped ∧ Q w')
    (hq : ∀ w', Q w' → Kept w w') :
    Calls Try.prog 20 #[.func (.func K) #[] cap] w fun e w' => e = .returned (.int .i64 4) ∧ ∃ w1, Q w1 ∧ w' = (w1.alloc (.cells #[] 57)).setCell ⟨w.heap.size, 0, none⟩ (.int .i64 4) := by
  have hmf : ∀ (fn : Fn) (first cap : Array Value) (w : World), (Instr.makeFunc fn first cap).run Try.prog w = .ok (.func fn first cap) w := fun _ _ _ _ => rfl
  have hne : ∀ w : World, (binOp .eql 1 (.func (.func K) #[] cap) .nilFunc).run Try.prog w = .ok (.bool false) w := fun _ => by rfl
  go_enter_defers Try.func20, Try.ntmps20
  go_wp2_with (refine hk.mono ?_; rintro e w1 ⟨he, hQ⟩; rw [stopped_eq] at he; subst he; obtain ⟨hc, hz⟩ := hq _ hQ)
  refine leaves_cons (f := 34) (args := #[.pointer (some ⟨w.heap.size, 0, none⟩)]) (by simp) (by simp [go_sem]) ?_
  refine (catch_stop ⟨w.heap.size, 0, none⟩ _ [] _ (World.block_lt_of_cell? _ _ hc) hc hz).mono ?_
  rintro e u' w'' ⟨rfl, rfl, rfl⟩
  have hc' : (w1.alloc (.cells #[] 57)).cell? ⟨w.heap.size, 0, none⟩ = some (.int .i64 0) := (World.cell?_alloc_lt w1 _ _ (World.block_lt_of_cell? _ _ hc)).trans hc
  simp [Leaves, settle, results, Try.results20, go_sem, hc']
  exact ⟨w1, hQ, rfl⟩
end Go.Proofs.Ytbdppelkefhieaa.octC
