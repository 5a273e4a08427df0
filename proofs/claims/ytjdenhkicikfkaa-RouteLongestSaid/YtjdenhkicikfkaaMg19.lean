/-
  1 texts of a proof, joined.
-/
import Derived.Test.YtjdenhkicikfkaaMg2
import Derived.RangeFuncNested
import Derived.RangeFuncBound
import Derived.RangeFuncCalls
import Derived.RangeFuncLeaves
import Derived.Shelf.Abstract
import Derived.OwnWalkIn
import Derived.TacticsInMore
import Derived.LoopNIn
import Derived.LoopIn

/-
  A range over a function: its rounds walked as plain code; what a caller's rows are while the iterator goes on.
-/
namespace Go.Proofs.Ytjdenhkicikfkaa.rndC
open Go.ChangeShapes Go.WideShapes Go.ChangeAt Go.RowKit
set_option linter.unusedVariables false
attribute [local go_sem] Oper.semAt_some
def noDefer (o : Oper) : Bool := match o.op with | .defer _ => false | _ => true
/-- operations in a round do what they do anywhere -/
theorem round_list {P : Program} {l₀ n : Nat} {ops : Array Oper} {Q : Exit → Act → World → Prop} (hQ : ¬ LetsOut Q) : ∀ (l : List Oper), l.all noDefer = true → ∀ (a : Act) (w : World), wpList P ops Q l a w → wpListIn (Fence.wide.inRound l₀) n P ops Q l a w
  | [], _, a, w, h => h
  | o :: rest, hd, a, w, h => by
    rw [List.all_cons, Bool.and_eq_true] at hd
    have ih := round_list (P := P) (l₀ := l₀) (n := n) (ops := ops) hQ rest hd.2
    unfold wpList at h
    unfold wpListIn
    split
    · rename_i hw
      rw [if_pos hw] at h
      rcases h with h | ⟨-, h⟩
      · refine ⟨fun _ _ => trivial, ?_⟩
        have e : o.semAt (Fence.wide.inRound l₀).round a.eval = execOp a.eval o := Oper.semAt_some l₀ a.eval o (fun c hc => by
          have := hd.1
          unfold noDefer at this
          rw [hc] at this
          cases this)
        rw [e]
        unfold Oper.wp at h
        generalize (execOp a.eval o).run P w = r at h ⊢
        have kd : (Fence.wide.inRound l₀).depth.isSome = true → 1 ≤ n := fun q => by cases q
        cases r with
        | ok x w' =>
          cases x with
          | value v => exact ih _ _ h
          | skip => exact ih _ _ h
          | defer d => exact ih _ _ h
          | enter f args =>
            refine ⟨kd, CallsIn.inRound l₀ (callsIn_wide.2 (Calls.mono h ?_))⟩
            intro e w'' h2
            cases e with
            | returned v => exact ih _ _ h2
            | panicked ch => exact h2
            | outgrown => exact h2
          | row s args =>
            refine ⟨kd, ?_⟩
            intro c cs _
            obtain ⟨v, w2, r2, s2⟩ := h c cs
            exact ⟨v, w2, ih _ _ r2, stepsIn_wide.2 s2⟩
          | _ => exact h.elim
        | halt x w' =>
          cases x with
          | panic v => exact h
          | _ => exact h.elim
      · exact absurd h hQ
    · rename_i hw
      rw [if_neg hw] at h
      exact ⟨fun _ _ => trivial, ih _ _ h⟩
/-- a region of a round -/
theorem round_region {P : Program} {l₀ n id : Nat} {Q : Exit → Act → World → Prop} {l : List Oper} {a : Act} {w : World} (hd : l.all noDefer = true) (hQ : ¬ LetsOut Q) (h : wpList P l.toArray Q l a w) : (Code.region id l.toArray false).wpIn (Fence.wide.inRound l₀) n P Q a w :=
  wpIn_region_lit (round_list hQ l hd a w h)
theorem own_row_grown {w w' : World} {base T : Nat} {c : Nat} {v : Value} {k : Nat} {l : List Value} {row : Option Nat} (h : w.ownsRow base T c v k l) (hg : w.grownBy w' row) (hr : ∀ r, row = some r → ∃ o : Obj, w.heap[r]? = some o ∧ o.isCells = false) : w'.ownsRow base T c v k l := by
  refine ⟨h.1, ?_⟩
  rcases h.2 with h0 | ⟨g, cap, cur, e1, hb, hh, h'⟩
  · exact .inl h0
  · refine .inr ⟨g, cap, cur, e1, hb, ?_, h'⟩
    rw [hg.block g (Array.getElem?_eq_some_iff.1 hh).1 (fun e => by
      obtain ⟨o, ho, hc⟩ := hr g e.symm
      rw [hh] at ho
      cases ho
      cases hc)]
    exact hh
theorem row_grown {w w' : World} {g : Nat} {cs : Array Value} {T : TypeId} {fr : Nat × Nat} {row : Option Nat} (h : w.heap[g]? = some (.cells cs T fr)) (hg : w.grownBy w' row) (hr : ∀ r, row = some r → ∃ o : Obj, w.heap[r]? = some o ∧ o.isCells = false) : w'.heap[g]? = some (.cells cs T fr) := by
  rw [hg.block g (Array.getElem?_eq_some_iff.1 h).1 (fun e => by
    obtain ⟨o, ho, hc⟩ := hr g e.symm
    rw [h] at ho
    cases ho
    cases hc)]
  exact h
/-- a load, told by its run -/
theorem wpListIn_load_run {F : Fence} {n : Nat} {P : Program} {ops : Array Oper} {rest : List Oper} {o : Oper} {a : Act} {w : World} {Q : Exit → Act → World → Prop} {v : Value} (hg : o.guard = none) (T : TypeId) (s : Operand) (ho : o.op = .load T s) (hr : (execOp a.eval o).run P w = .ok (.value v) w)
    (h : wpListIn F n P ops Q rest (a.put o.dst v) w) : wpListIn F n P ops Q (o :: rest) a w := by
  refine wpListIn_plain hg fun K hK => ?_
  unfold Oper.wpIn
  refine ⟨by simp [Oper.about, ho], ?_⟩
  rw [Oper.semAt_plain F _ _ (by rw [ho]; intro c hc; cases hc), hr]
  exact hK _ _ h
end Go.Proofs.Ytjdenhkicikfkaa.rndC
